/- Images, one behind the other, on the way up from a leaf (chapter 2, D4): plain functions; and a slice of images in memory. -/
import Derived.Test.YtabimdlooddcoaaDigSmall
namespace Go.Proofs.Ytabimdlooddcoaa
open Go.RowKit
set_option linter.unusedVariables false

/-- An image in memory: its tag, where its parts lie, and these. -/
structure Ent where
  tag : Int
  a : Option Addr
  cap : Nat
  ss : List ByteArray

def Ent.cells (e : Ent) : List Value := [.int .i64 e.tag, .slice e.a e.ss.length e.cap]
def Ent.img (e : Ent) : Int × List ByteArray := (e.tag, e.ss)
def flat (E : List Ent) : List Value := E.flatMap Ent.cells
theorem flat_len (E : List Ent) : (flat E).length = E.length * 2 := by
  induction E with
  | nil => rfl
  | cons e r ih => simp [flat, Ent.cells] at *; omega
theorem flat_snoc (E : List Ent) (e : Ent) : flat (E ++ [e]) = flat E ++ e.cells := by simp [flat]
theorem flat_at (E : List Ent) (k : Nat) (hk : k < E.length) : (flat E)[k * 2]? = some (.int .i64 E[k].tag) ∧ (flat E)[k * 2 + 1]? = some (.slice E[k].a E[k].ss.length E[k].cap) := by
  induction E generalizing k with
  | nil => simp at hk
  | cons e r ih =>
    cases k with
    | zero => simp [flat, Ent.cells]
    | succ k =>
      have h := ih k (by simpa using hk)
      have e1 : (k + 1) * 2 = k * 2 + 1 + 1 := by omega
      rw [e1]
      simpa [flat, Ent.cells] using h

def okE (w : World) (E : List Ent) : Prop := ∀ e ∈ E, Strs w e.a e.ss ∧ ∃ b off, e.a = some ⟨b, off, none⟩ ∧ b < w.heap.size
theorem okE.below {w w' : World} {E : List Ent} (h : okE w E) (hb : Below w.heap.size w w') : okE w' E := fun e he => by
  obtain ⟨h1, b, off, h2, h3⟩ := h e he
  exact ⟨h1.below hb, b, off, h2, Nat.lt_of_lt_of_le h3 hb.size⟩
/-- The parts lie in other blocks than the images. -/
def Apart (sv : Value) (E : List Ent) : Prop := ∀ e ∈ E, ∀ b off, e.a = some ⟨b, off, none⟩ → sv.ownBlock ≠ some b
theorem okE.grown {w w' : World} {E : List Ent} {sv : Value} (h : okE w E) (hg : w.grownBy w' sv.ownBlock) (ha : Apart sv E) : okE w' E := fun e he => by
  obtain ⟨h1, b', off', h2, h3⟩ := h e he
  refine ⟨⟨h1.1, ?_⟩, b', off', h2, Nat.lt_of_lt_of_le h3 hg.size⟩
  rcases h1.2 with h1 | ⟨b, off, hab, hlt, hc⟩
  · exact .inl h1
  · refine .inr ⟨b, off, hab, Nat.lt_of_lt_of_le hlt hg.size, fun i hi => ?_⟩
    rw [World.cell?_of_block (w := w) (a := ⟨b, off + i, none⟩) (hg.block b hlt (fun e' => ha e he b off hab e'.symm))]
    exact hc i hi
theorem okE.snoc {w : World} {E : List Ent} (h : okE w E) (e : Ent) (he : Strs w e.a e.ss ∧ ∃ b off, e.a = some ⟨b, off, none⟩ ∧ b < w.heap.size) : okE w (E ++ [e]) := fun x hx => by
  rcases List.mem_append.1 hx with h1 | h1
  · exact h x h1
  · simp at h1; subst h1; exact he
theorem Apart.snoc {sv : Value} {E : List Ent} (h : Apart sv E) (e : Ent) (he : ∀ b off, e.a = some ⟨b, off, none⟩ → sv.ownBlock ≠ some b) : Apart sv (E ++ [e]) := fun x hx => by
  rcases List.mem_append.1 hx with h1 | h1
  · exact h x h1
  · simp at h1; subst h1; exact he
/-- Behind an append: the images' block is the one that was, or a new one. -/
theorem Apart.next {w : World} {sv : Value} {E : List Ent} {g n c H : Nat} (h : Apart sv E) (hE : okE w E) (hat : sv.ownBlock = some g ∨ g = H) (hH : w.heap.size = H) : Apart (.slice (some ⟨g, 0, none⟩) n c) E := fun e he b off hab => by
  rcases hat with h1 | h1
  · intro h2
    have h3 : some g = some b := h2
    exact h e he b off hab (h1.trans h3)
  · intro h2
    have h3 : g = b := by simpa [Value.ownBlock] using h2
    obtain ⟨_, b', off', h4, h5⟩ := hE e he
    have h6 : b = b' := by rw [hab] at h4; exact congrArg Addr.block (Option.some.inj h4)
    omega

/-- The two parts of a node's image: what was worked out so far, and the side. -/
def nodeParts (t : Bool) (x d : Int) : List ByteArray := if t then [str (be d 8), str (be x 8)] else [str (be x 8), str (be d 8)]
def climbD (w : Int) (s : ByteArray) : List (Bool × Int) → Int
  | [] => ofP w 0 [s]
  | (t, d) :: r => ofP w 1 (nodeParts t (climbD w s r) d)
def climb (w : Int) (s : ByteArray) : List (Bool × Int) → List (Int × List ByteArray)
  | [] => [(0, [s])]
  | (t, d) :: r => climb w s r ++ [(1, nodeParts t (climbD w s r) d)]
theorem climbD_bd (w : Int) (s : ByteArray) (l : List (Bool × Int)) : 0 ≤ climbD w s l ∧ climbD w s l ≤ 18446744073709551615 := by
  cases l with
  | nil => exact ofP_bd _ _ _
  | cons p r => obtain ⟨t, d⟩ := p; exact ofP_bd _ _ _
/-- The whole way up: the list's image last. -/
def upP (w : Int) (s : ByteArray) (c : Int) (l : List (Bool × Int)) : List (Int × List ByteArray) := climb w s l ++ [(2, [str (be c 5), str (be (climbD w s l) 8)])]
/-- The root that is worked out. -/
def topP (w : Int) (s : ByteArray) (c : Int) (l : List (Bool × Int)) : Int := ofP w 2 [str (be c 5), str (be (climbD w s l) 8)]

theorem drop_step {α : Type} (l : List α) (k : Nat) (hk : k < l.length) : l.drop k = l[k] :: l.drop (k + 1) := List.drop_eq_getElem_cons hk

theorem climb_step (w : Int) (s : ByteArray) (l : List (Bool × Int)) (k : Nat) (hk : k < l.length) :
    climb w s (l.drop k) = climb w s (l.drop (k + 1)) ++ [(1, nodeParts l[k].1 (climbD w s (l.drop (k + 1))) l[k].2)] ∧ climbD w s (l.drop k) = ofP w 1 (nodeParts l[k].1 (climbD w s (l.drop (k + 1))) l[k].2) := by
  rw [drop_step l k hk]
  generalize l[k] = p
  obtain ⟨t, d⟩ := p
  exact ⟨rfl, rfl⟩

/-- The sides of a path lead to what is above the list. -/
theorem climb_above (w : Int) : ∀ (n : Nat) (ss : List ByteArray) (i : Nat) (s : ByteArray), ss.length = n → ss[i]? = some s →
    (turnsP n i).length = (sidesP w ss i).length ∧ climbD w s (List.zip (turnsP n i) (sidesP w ss i)) = aboveP w ss := by
  intro n
  induction n using Nat.strongRecOn with
  | ind n ih =>
    intro ss i s hn his
    have hi : i < ss.length := (List.getElem?_eq_some_iff.1 his).1
    by_cases h1 : n ≤ 1
    · rw [turnsP_one _ _ h1, sidesP_one w ss i (by omega)]
      refine ⟨rfl, ?_⟩
      rw [aboveP_one w ss (by omega)]
      match ss, his, hi, hn with
      | [s'], his, hi, hn =>
        obtain rfl : i = 0 := by simpa using hi
        simp at his
        subst his
        rfl
      | a :: b :: r, _, _, hn => simp at hn; omega
    · have hs := firstP_spec n (by omega)
      by_cases hk : firstP n ≤ i
      · have hd : (ss.drop (firstP n)).length = n - firstP n := by simp; omega
        have hr := ih (n - firstP n) (by omega) (ss.drop (firstP n)) (i - firstP n) s hd (by rw [List.getElem?_drop, show firstP n + (i - firstP n) = i by omega]; exact his)
        have hsr := sidesP_right w ss i (by omega)
        have ham := aboveP_more w ss (by omega)
        rw [hn] at hsr ham
        rw [turnsP_right _ _ (by omega) hk, hsr hk, ham]
        refine ⟨by simp [hr.1], ?_⟩
        simp only [List.zip_cons_cons, climbD, nodeParts, if_true]
        rw [hr.2]
      · have hd : (ss.take (firstP n)).length = firstP n := by simp; omega
        have hr := ih (firstP n) (by omega) (ss.take (firstP n)) i s hd (by rw [List.getElem?_take_of_lt (by omega)]; exact his)
        have hsl := sidesP_left w ss i (by omega)
        have ham := aboveP_more w ss (by omega)
        rw [hn] at hsl ham
        rw [turnsP_left _ _ (by omega) hk, hsl hk, ham]
        refine ⟨by simp [hr.1], ?_⟩
        simp only [List.zip_cons_cons, climbD, nodeParts]
        rw [hr.2]
        rfl
end Go.Proofs.Ytabimdlooddcoaa
