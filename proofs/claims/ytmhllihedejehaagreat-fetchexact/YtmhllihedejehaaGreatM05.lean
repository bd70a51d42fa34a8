/- A tree in memory. -/
import Derived.Test.YtmhllihedejehaaGreatM03
import Derived.Test.YtmhllihedejehaaGreatTPure
import Derived.Deep.RegionHeld3
import Derived.Deep.LoopGhost

namespace Go.Proofs.YtmhllihedejehaaGreat
open Go.RowKit
set_option linter.unusedVariables false

/-- The digest of a tree's top. -/
def Tr.dig (wd : Int) : Tr → Int
  | .leaf k v => overP wd 1 (str k) (str v) 0 0 0
  | .fork p l r => overP wd 2 ⟨#[]⟩ ⟨#[]⟩ p (l.dig wd) (r.dig wd)
theorem Tr.dig_bd (wd : Int) (t : Tr) : 0 ≤ t.dig wd ∧ t.dig wd ≤ 18446744073709551615 := by
  cases t <;> exact overP_bd _ _ _ _ _ _ _

/-- Keys and values are not too long, places not too great. -/
def Tr.ok : Tr → Prop
  | .leaf k v => k.length ≤ 32 ∧ v.length ≤ 4096
  | .fork p l r => p < 288 ∧ l.ok ∧ r.ok

/-- A node in memory, and all below it. -/
def NodeAt (wd : Int) (w : World) : Nat → Tr → Prop
  | b, .leaf k v => Blk w b #[.int .u64 (Tr.dig wd (.leaf k v)), .string (str k), .string (str v), .int .i64 0, .pointer none, .pointer none] 103
  | b, .fork p l r => ∃ bl br, Blk w b #[.int .u64 (Tr.dig wd (.fork p l r)), .string ⟨#[]⟩, .string ⟨#[]⟩, .int .i64 p, .pointer (some ⟨bl, 0, none⟩), .pointer (some ⟨br, 0, none⟩)] 103 ∧ NodeAt wd w bl l ∧ NodeAt wd w br r

theorem NodeAt.lt {wd : Int} {w : World} {b : Nat} {t : Tr} (h : NodeAt wd w b t) : b < w.heap.size := by
  cases t with
  | leaf k v => exact Blk.lt h
  | fork p l r => obtain ⟨_, _, h, _⟩ := h; exact h.lt
theorem NodeAt.below {wd : Int} {w w' : World} (hb : Below w.heap.size w w') : ∀ {t : Tr} {b : Nat}, NodeAt wd w b t → NodeAt wd w' b t
  | .leaf k v, b, h => Blk.below (B := w.heap.size) h hb (Blk.lt h)
  | .fork p l r, b, h => by
    obtain ⟨bl, br, h, h1, h2⟩ := h
    exact ⟨bl, br, h.below hb h.lt, NodeAt.below hb h1, NodeAt.below hb h2⟩
theorem NodeAt.dig {wd : Int} {w : World} {b : Nat} {t : Tr} (h : NodeAt wd w b t) : w.cell? ⟨b, 0, none⟩ = some (.int .u64 (t.dig wd)) := by
  cases t with
  | leaf k v => exact (Blk.cell h 0).trans rfl
  | fork p l r => obtain ⟨_, _, h, _⟩ := h; exact (h.cell 0).trans rfl

/-- The top of a tree, or none. -/
def TopAt (wd : Int) (w : World) : Value → Option Tr → Prop
  | v, none => v = .pointer none
  | v, some t => ∃ b, v = .pointer (some ⟨b, 0, none⟩) ∧ NodeAt wd w b t
theorem TopAt.below {wd : Int} {w w' : World} {v : Value} {o : Option Tr} (hb : Below w.heap.size w w') (h : TopAt wd w v o) : TopAt wd w' v o := by
  cases o with
  | none => exact h
  | some t => obtain ⟨b, e, h⟩ := h; exact ⟨b, e, h.below hb⟩

theorem forks_leaf (wd : Int) (b : Nat) (k v : Key) (w : World) (h : NodeAt wd w b (.leaf k v)) :
    Calls Tryz.prog 65 #[.pointer (some ⟨b, 0, none⟩)] w fun e w' => e = .returned (.bool false) ∧ w = w' := by
  have c4 := Blk.cell h 4
  simp only [List.getElem?_toArray, List.getElem?_cons_succ, List.getElem?_cons_zero] at c4
  clear h
  go_enter Tryz.func65, Tryz.ntmps65
  go_wp2
  go_ret
  exact ⟨rfl, rfl⟩

theorem forks_fork (wd : Int) (b p : Nat) (l r : Tr) (w : World) (h : NodeAt wd w b (.fork p l r)) :
    Calls Tryz.prog 65 #[.pointer (some ⟨b, 0, none⟩)] w fun e w' => e = .returned (.bool true) ∧ w = w' := by
  obtain ⟨bl, br, h, _⟩ := h
  have c4 := Blk.cell h 4
  simp only [List.getElem?_toArray, List.getElem?_cons_succ, List.getElem?_cons_zero] at c4
  clear h
  go_enter Tryz.func65, Tryz.ntmps65
  go_wp2
  go_ret
  exact ⟨rfl, rfl⟩

theorem side_any (b x bl br : Nat) (d pl : Int) (s1 s2 : ByteArray) (w : World) (hx : x = 0 ∨ x = 1) (h : Blk w b #[.int .u64 d, .string s1, .string s2, .int .i64 pl, .pointer (some ⟨bl, 0, none⟩), .pointer (some ⟨br, 0, none⟩)] 103) :
    Calls Tryz.prog 66 #[.pointer (some ⟨b, 0, none⟩), .int .i64 x] w fun e w' => e = .returned (.pointer (some ⟨if x = 0 then bl else br, 0, none⟩)) ∧ w = w' := by
  have c4 := Blk.cell h 4
  have c5 := Blk.cell h 5
  simp only [List.getElem?_toArray, List.getElem?_cons_succ, List.getElem?_cons_zero] at c4 c5
  clear h
  rcases hx with rfl | rfl
  all_goals
    go_enter Tryz.func66, Tryz.ntmps66
    go_wp2
    go_ret
    exact ⟨rfl, rfl⟩
end Go.Proofs.YtmhllihedejehaaGreat

namespace Go.Proofs.YtmhllihedejehaaGreat
set_option linter.unusedVariables false
set_option linter.unusedSimpArgs false

/-- A place in its block, which its node is to have, its two sides. -/
inductive PT where
  | no
  | is (b : Nat) (d : Int) (l r : PT)
def PT.isNo : PT → Bool
  | .no => true
  | .is .. => false
theorem PT.eq_no {t : PT} (h : t.isNo = true) : t = .no := by cases t <;> first | rfl | cases h
def PT.bs : PT → List Nat
  | .no => []
  | .is b _ l r => b :: (l.bs ++ r.bs)
/-- What is wanted, with the ways, behind a way. -/
def PT.wants : PT → Key → List (Key × Int)
  | .no, _ => []
  | .is _ d l r, p => if (l.isNo && r.isNo) = true then [(p, d)] else l.wants (p ++ [48]) ++ r.wants (p ++ [49])
/-- The place at the end of a way. -/
def PT.get : PT → Key → Option PT
  | t, [] => some t
  | .no, _ :: _ => none
  | .is _ _ l r, c :: ws => if c = 48 then l.get ws else if c = 49 then r.get ws else none
/-- Another one there. -/
def PT.put : PT → Key → PT → PT
  | _, [], s => s
  | .no, _ :: _, _ => .no
  | .is b d l r, c :: ws, s => if c = 48 then .is b d (l.put ws s) r else if c = 49 then .is b d l (r.put ws s) else .is b d l r

theorem PT.get_nil (t : PT) : t.get [] = some t := by cases t <;> rfl
theorem PT.put_nil (t s : PT) : t.put [] s = s := by cases t <;> rfl
theorem PT.get_cons (b : Nat) (d : Int) (l r : PT) (c : UInt8) (ws : Key) : (PT.is b d l r).get (c :: ws) = if c = 48 then l.get ws else if c = 49 then r.get ws else none := rfl
theorem PT.put_cons (b : Nat) (d : Int) (l r : PT) (c : UInt8) (ws : Key) (s : PT) : (PT.is b d l r).put (c :: ws) s = if c = 48 then .is b d (l.put ws s) r else if c = 49 then .is b d l (r.put ws s) else .is b d l r := rfl
theorem PT.no_get {ws : Key} {s : PT} (h : PT.no.get ws = some s) : s = .no := by
  cases ws with
  | nil => rw [PT.get_nil] at h; injection h with h; exact h.symm
  | cons c r => cases h
theorem PT.get_app : ∀ (ws : Key) (t : PT) (vs : Key), t.get (ws ++ vs) = (t.get ws).bind fun s => s.get vs
  | [], t, vs => by rw [PT.get_nil]; rfl
  | c :: ws, .no, vs => rfl
  | c :: ws, .is b d l r, vs => by
    rw [List.cons_append, PT.get_cons, PT.get_cons]
    split
    · exact PT.get_app ws l vs
    · split
      · exact PT.get_app ws r vs
      · rfl
/-- A place is no way but a text of 0 and 1. -/
theorem PT.get_way : ∀ (ws : Key) (t s : PT), t.get ws = some s → ∀ c ∈ ws, c = 48 ∨ c = 49
  | [], t, s, h => fun c hc => by cases hc
  | c :: ws, .no, s, h => by cases h
  | c :: ws, .is b d l r, s, h => by
    rw [PT.get_cons] at h
    intro x hx
    by_cases h1 : c = 48
    · rw [if_pos h1] at h
      rcases List.mem_cons.1 hx with e | e
      · exact .inl (e.trans h1)
      · exact PT.get_way ws l s h x e
    · rw [if_neg h1] at h
      by_cases h2 : c = 49
      · rw [if_pos h2] at h
        rcases List.mem_cons.1 hx with e | e
        · exact .inr (e.trans h2)
        · exact PT.get_way ws r s h x e
      · rw [if_neg h2] at h; cases h

/-- What is ahead of a place, and what behind it, does not hang on it. -/
theorem PT.ctx : ∀ (ws : Key) (t s : PT) (p : Key), t.get ws = some s → s.isNo = false →
    ∃ A B : List (Key × Int), (∀ s' : PT, s'.isNo = false → (t.put ws s').wants p = A ++ (s'.wants (p ++ ws) ++ B)) ∧ t.put ws s = t ∧ ∀ s' : PT, s'.isNo = false → (t.put ws s').isNo = false
  | [], t, s, p, h, hs => by
    rw [PT.get_nil] at h
    injection h with h
    subst h
    exact ⟨[], [], (fun s' _ => by rw [PT.put_nil]; simp), PT.put_nil _ _, fun s' h' => by rw [PT.put_nil]; exact h'⟩
  | c :: ws, .no, s, p, h, hs => by cases h
  | c :: ws, .is b d l r, s, p, h, hs => by
    rw [PT.get_cons] at h
    by_cases h1 : c = 48
    · rw [if_pos h1] at h
      obtain ⟨A, B, hA, hi, hn⟩ := PT.ctx ws l s (p ++ [48]) h hs
      refine ⟨A, B ++ r.wants (p ++ [49]), fun s' h' => ?_, ?_, fun s' h' => ?_⟩
      · rw [PT.put_cons, if_pos h1]
        show (if _ then _ else _) = _
        rw [hn s' h', if_neg (by simp), hA s' h', h1]
        simp
      · rw [PT.put_cons, if_pos h1, hi]
      · rw [PT.put_cons, if_pos h1]; rfl
    · rw [if_neg h1] at h
      by_cases h2 : c = 49
      · rw [if_pos h2] at h
        obtain ⟨A, B, hA, hi, hn⟩ := PT.ctx ws r s (p ++ [49]) h hs
        refine ⟨l.wants (p ++ [48]) ++ A, B, fun s' h' => ?_, ?_, fun s' h' => ?_⟩
        · rw [PT.put_cons, if_neg h1, if_pos h2]
          show (if _ then _ else _) = _
          rw [hn s' h', if_neg (by simp), hA s' h', h2]
          simp
        · rw [PT.put_cons, if_neg h1, if_pos h2, hi]
        · rw [PT.put_cons, if_neg h1, if_pos h2]; rfl
      · rw [if_neg h2] at h; cases h

/-- What is wanted stands at a place with nothing below it. -/
theorem PT.wants_get : ∀ (t : PT) (p : Key) (x : Key × Int), x ∈ t.wants p → ∃ ws b, x.1 = p ++ ws ∧ t.get ws = some (.is b x.2 .no .no)
  | .no, p, x, h => by cases h
  | .is b d l r, p, x, h => by
    unfold PT.wants at h
    by_cases hc : (l.isNo && r.isNo) = true
    · rw [if_pos hc] at h
      simp only [List.mem_singleton] at h
      subst h
      simp only [Bool.and_eq_true] at hc
      rw [PT.eq_no hc.1, PT.eq_no hc.2]
      exact ⟨[], b, by simp, by rw [PT.get_nil]⟩
    · rw [if_neg hc] at h
      rcases List.mem_append.1 h with q | q
      · obtain ⟨ws, b', e, hg⟩ := PT.wants_get l _ x q
        exact ⟨48 :: ws, b', by rw [e]; simp, by rw [PT.get_cons, if_pos rfl]; exact hg⟩
      · obtain ⟨ws, b', e, hg⟩ := PT.wants_get r _ x q
        exact ⟨49 :: ws, b', by rw [e]; simp, by rw [PT.get_cons, if_neg (by decide), if_pos rfl]; exact hg⟩
theorem PT.wants_nodup : ∀ (t : PT) (p : Key), ((t.wants p).map Prod.fst).Nodup
  | .no, p => List.nodup_nil
  | .is b d l r, p => by
    unfold PT.wants
    split
    · simp
    · rw [List.map_append, List.nodup_append]
      refine ⟨PT.wants_nodup l _, PT.wants_nodup r _, fun x hx y hy e => ?_⟩
      obtain ⟨u, hu, rfl⟩ := List.mem_map.1 hx
      obtain ⟨v, hv, e2⟩ := List.mem_map.1 hy
      obtain ⟨ws, _, e3, _⟩ := PT.wants_get l _ u hu
      obtain ⟨vs, _, e4, _⟩ := PT.wants_get r _ v hv
      rw [← e2, e3, e4, List.append_assoc, List.append_assoc, List.append_cancel_left_eq] at e
      simp at e
/-- Where a place is, something is wanted. -/
theorem PT.wants_any : ∀ (t : PT) (p : Key), t.isNo = false → t.wants p ≠ []
  | .no, p, h => by cases h
  | .is b d l r, p, _ => by
    unfold PT.wants
    by_cases hc : (l.isNo && r.isNo) = true
    · rw [if_pos hc]; simp
    · rw [if_neg hc]
      cases hl : l.isNo with
      | false => intro e; exact PT.wants_any l _ hl (List.append_eq_nil_iff.1 e).1
      | true =>
        cases hr : r.isNo with
        | false => intro e; exact PT.wants_any r _ hr (List.append_eq_nil_iff.1 e).2
        | true => rw [hl, hr] at hc; exact (hc rfl).elim
theorem PT.bs_ctx : ∀ (ws : Key) (t s : PT), t.get ws = some s → ∃ X Y : List Nat, t.bs = X ++ (s.bs ++ Y) ∧ ∀ s' : PT, (t.put ws s').bs = X ++ (s'.bs ++ Y)
  | [], t, s, h => by
    rw [PT.get_nil] at h; injection h with h; subst h
    exact ⟨[], [], by simp, fun s' => by rw [PT.put_nil]; simp⟩
  | c :: ws, .no, s, h => by cases h
  | c :: ws, .is b d l r, s, h => by
    rw [PT.get_cons] at h
    by_cases h1 : c = 48
    · rw [if_pos h1] at h
      obtain ⟨X, Y, e, f⟩ := PT.bs_ctx ws l s h
      exact ⟨b :: X, Y ++ r.bs, by show b :: (l.bs ++ r.bs) = _; rw [e]; simp, fun s' => by rw [PT.put_cons, if_pos h1]; show b :: ((l.put ws s').bs ++ r.bs) = _; rw [f]; simp⟩
    · rw [if_neg h1] at h
      by_cases h2 : c = 49
      · rw [if_pos h2] at h
        obtain ⟨X, Y, e, f⟩ := PT.bs_ctx ws r s h
        exact ⟨b :: (l.bs ++ X), Y, by show b :: (l.bs ++ r.bs) = _; rw [e]; simp, fun s' => by rw [PT.put_cons, if_neg h1, if_pos h2]; show b :: (l.bs ++ (r.put ws s').bs) = _; rw [f]; simp⟩
      · rw [if_neg h2] at h; cases h
theorem PT.put_app : ∀ (ws : Key) (t s : PT) (vs : Key) (u : PT), t.get ws = some s → t.put (ws ++ vs) u = t.put ws (s.put vs u)
  | [], t, s, vs, u, h => by rw [PT.get_nil] at h; injection h with h; subst h; rw [PT.put_nil]; rfl
  | c :: ws, .no, s, vs, u, h => by cases h
  | c :: ws, .is b d l r, s, vs, u, h => by
    rw [PT.get_cons] at h
    rw [List.cons_append, PT.put_cons, PT.put_cons]
    by_cases h1 : c = 48
    · rw [if_pos h1] at h ⊢; rw [if_pos h1, PT.put_app ws l s vs u h]
    · rw [if_neg h1] at h ⊢
      by_cases h2 : c = 49
      · rw [if_pos h2] at h ⊢; rw [if_neg h1, if_pos h2, PT.put_app ws r s vs u h]
      · rw [if_neg h2] at h; cases h
theorem PT.get_put : ∀ (ws : Key) (t s u : PT), t.get ws = some s → (t.put ws u).get ws = some u
  | [], t, s, u, h => by rw [PT.put_nil, PT.get_nil]
  | c :: ws, .no, s, u, h => by cases h
  | c :: ws, .is b d l r, s, u, h => by
    rw [PT.get_cons] at h
    rw [PT.put_cons]
    by_cases h1 : c = 48
    · rw [if_pos h1] at h ⊢; rw [PT.get_cons, if_pos h1]; exact PT.get_put ws l s u h
    · rw [if_neg h1] at h ⊢
      by_cases h2 : c = 49
      · rw [if_pos h2] at h ⊢; rw [PT.get_cons, if_neg h1, if_pos h2]; exact PT.get_put ws r s u h
      · rw [if_neg h2] at h; cases h
end Go.Proofs.YtmhllihedejehaaGreat
