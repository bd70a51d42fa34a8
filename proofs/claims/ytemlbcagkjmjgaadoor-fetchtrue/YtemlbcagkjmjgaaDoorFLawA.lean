/- FetchTrue: a tree that is fetched, and what each call makes of it. -/
import Derived.Test.YtemlbcagkjmjgaaDoorFPlan
import Derived.Test.YtemlbcagkjmjgaaDoorFWants
import Derived.Test.YtemlbcagkjmjgaaDoorFDone
import Derived.Test.YtemlbcagkjmjgaaDoorTItems2
import Derived.Test.YtemlbcagkjmjgaaDoorM35
namespace Go.Proofs.YtemlbcagkjmjgaaDoor
open Go.RowKit Go.Maps
set_option linter.unusedVariables false
set_option linter.unusedSimpArgs false

/-- Places are no deeper than the ways of what is wanted are long. -/
theorem PT.depth_le (N : Nat) : ∀ (t : PT) (p : Key), t.isNo = false → (∀ x ∈ t.wants p, x.1.length ≤ N) → p.length + t.depth ≤ N + 1
  | .no, p, h, _ => by cases h
  | .is b d l r, p, _, h => by
    unfold PT.wants at h
    by_cases hc : (l.isNo && r.isNo) = true
    · rw [if_pos hc] at h
      have := h (p, d) (by simp)
      have hc2 : l.isNo = true ∧ r.isNo = true := by simpa using hc
      rw [PT.eq_no hc2.1, PT.eq_no hc2.2]
      simp only [PT.depth] at *
      omega
    · rw [if_neg hc] at h
      have hl : l.isNo = false → p.length + 1 + l.depth ≤ N + 1 := fun hl => by
        have := PT.depth_le N l (p ++ [48]) hl fun x hx => h x (List.mem_append_left _ hx)
        simpa using this
      have hr : r.isNo = false → p.length + 1 + r.depth ≤ N + 1 := fun hr => by
        have := PT.depth_le N r (p ++ [49]) hr fun x hx => h x (List.mem_append_right _ hx)
        simpa using this
      have zl : l.isNo = true → l.depth = 0 := fun q => by rw [PT.eq_no q]; rfl
      have zr : r.isNo = true → r.depth = 0 := fun q => by rw [PT.eq_no q]; rfl
      simp only [PT.depth]
      cases h1 : l.isNo <;> cases h2 : r.isNo
      · have := hl h1; have := hr h2; omega
      · have := hl h1; have := zr h2; omega
      · have := zl h1; have := hr h2; omega
      · rw [h1, h2] at hc; exact (hc rfl).elim

/-- What Wants(1) gives. -/
def WantE (L : List (Key × Int)) (w : World) (e : Ending) (w' : World) : Prop :=
  Below w.heap.size w w' ∧ ((L = [] ∧ ∃ a c, e = .returned (.slice a 0 c)) ∨ ∃ way d R g c cs, L = (way, d) :: R ∧ e = .returned (.slice (some ⟨g, 0, none⟩) 1 c) ∧ w.heap.size ≤ g ∧ Blk w' g cs 9 ∧ cs[0]? = some (.string (str way)))
theorem St.wants1 {base : Nat} {w : World} {fb : Nat} {wd root : Int} {mb : Nat} {L : List (Key × Int)} {o : Option Tr} {bar : List Int} (h : St base w fb wd root mb L o bar) (hs : ∀ x ∈ L, x.1.length ≤ 1000000) :
    Calls Tryd.prog 9 #[.pointer (some ⟨fb, 0, none⟩), .int .i64 1] w fun e w' => WantE L w e w' := by
  obtain ⟨pt, q, H, eL⟩ := h
  have hd : pt.depth ≤ 100000000 := by
    cases hn : pt.isNo with
    | true => rw [PT.eq_no hn]; exact Nat.zero_le _
    | false =>
      have := PT.depth_le 1000000 pt [] hn (by rw [eL]; exact hs)
      simp at this
      omega
  refine (wants_any fb _ _ _ _ _ pt 1 w (by omega) H.k H.pl hd).mono fun e w' ⟨v, he, hr, hb⟩ => ⟨hb, ?_⟩
  have e1 : (pt.ways []).take (1 : Int).toNat = (L.map Prod.fst).take 1 := by rw [← eL]; rfl
  rw [e1] at hr
  cases L with
  | nil =>
    have hr2 : w'.ownsRow w.heap.size 9 1 v 0 [] := hr
    obtain ⟨sa, sc, rfl⟩ := slice_of hr2
    exact .inl ⟨rfl, sa, sc, he⟩
  | cons x R =>
    obtain ⟨way, d⟩ := x
    have hr2 : w'.ownsRow w.heap.size 9 1 v 1 [.string (str way)] := by simpa [strs] using hr
    rcases hr2.2 with ⟨_, h0⟩ | ⟨g, cap, cur, rfl, hb0, hg, h1, h2, h3, h4⟩
    · cases h0
    · refine .inr ⟨way, d, R, g, cap, cur, rfl, he, hb0, hg, ?_⟩
      have := congrArg (fun l => l[0]?) h4
      simpa using this

/-- The law under way: all that came ahead of the fetching lies in wN. -/
structure LawAt (wN : World) (bt bu fb mb : Nat) (wd : Int) (o0 : Option Tr) (q0 la : Option Addr) (cap : Nat) (k : Nat) (L : List (Key × Int)) (o : Option Tr) (bar : List Int) (n : Nat) (w : World) : Prop where
  kt : Blk wN bt #[.int .i64 wd, .pointer q0] 34
  ku : Blk wN bu #[.int .i64 wd, .slice la (itemsO o0).length cap] 36
  top : TopAt wd wN (.pointer q0) o0
  its : ItemsAt wN la (itemsO o0)
  g0 : Good o0
  few : (itemsO o0).length ≤ 1024
  okw : okW wd
  st : St wN.heap.size w fb wd (rootP wd o0) mb L o bar
  pl : Plan wd o0 L o n
  bel : Below wN.heap.size wN w
  b0 : bar.contains 0 = false
  bl : bar.length ≤ k
theorem Tr.size_items (t : Tr) : t.size + 1 = 2 * t.items.length := by
  induction t with
  | leaf k v => rfl
  | fork p l r ihl ihr => simp only [Tr.size, Tr.items, List.length_append]; omega
section
variable {wN w w' : World} {bt bu fb mb : Nat} {wd : Int} {o0 : Option Tr} {q0 la : Option Addr} {cap k : Nat} {L : List (Key × Int)} {o : Option Tr} {bar : List Int} {n : Nat}
theorem LawAt.size (h : LawAt wN bt bu fb mb wd o0 q0 la cap k L o bar n w) : ∀ t, o0 = some t → t.size ≤ 2047 := fun t e => by
  have := h.few
  rw [e] at this
  have := t.size_items
  simp only [itemsO] at *
  omega
theorem LawAt.next (h : LawAt wN bt bu fb mb wd o0 q0 la cap k L o bar n w) (hb : Below w.heap.size w w') : LawAt wN bt bu fb mb wd o0 q0 la cap k L o bar n w' :=
  ⟨h.kt, h.ku, h.top, h.its, h.g0, h.few, h.okw, h.st.below hb, h.pl, h.bel.trans (hb.mono h.bel.size), h.b0, h.bl⟩
theorem LawAt.wants (h : LawAt wN bt bu fb mb wd o0 q0 la cap k L o bar n w) : Calls Tryd.prog 9 #[.pointer (some ⟨fb, 0, none⟩), .int .i64 1] w fun e w' => WantE L w e w' :=
  h.st.wants1 (h.pl.short fun t e => by have := h.size t e; omega)
theorem LawAt.step (h : LawAt wN bt bu fb mb wd o0 q0 la cap k L o bar n w) {way : Key} {d : Int} {R : List (Key × Int)} (hL : L = (way, d) :: R) : ∃ s, Step wd o0 way d R o n s :=
  Plan.step h.g0 (fun t e => by have := h.size t e; omega) hL h.pl
/-- At of what is wanted. -/
theorem LawAt.at_ (h : LawAt wN bt bu fb mb wd o0 q0 la cap k L o bar n w) {way : Key} {d : Int} {R : List (Key × Int)} {s : Option Tr} (hs : Step wd o0 way d R o n s) (hb : Below wN.heap.size wN w') :
    Calls Tryd.prog 10 #[.agg #[.int .i64 wd, .pointer q0], .string (str way)] w' fun e w'' => e = .returned (.tuple #[(toldO wd s).v, .int .i64 0]) ∧ Below w'.heap.size w' w'' := by
  refine (at_any wd q0 o0 way w' (by have := hs.len; unfold maxLen; omega) (TopAt.below hb h.top)).mono fun e w'' ⟨h1, h2⟩ => ⟨?_, h2⟩
  rw [h1]
  unfold atP
  rw [if_pos hs.isw, hs.go, told_v]
/-- Who does not lie is listened to. -/
def Honest (wN : World) (bt bu fb mb : Nat) (wd : Int) (o0 : Option Tr) (q0 la : Option Addr) (cap k : Nat) (bar : List Int) (n : Nat) (w : World) (e : Ending) (w' : World) : Prop :=
  e = .returned (.int .i64 0) ∧ Kt w w' ∧ ∃ L' o' m, m < n ∧ LawAt wN bt bu fb mb wd o0 q0 la cap k L' o' bar m w'
theorem LawAt.honest (h : LawAt wN bt bu fb mb wd o0 q0 la cap k L o bar n w) (hk : k ≤ 100000) {way : Key} {d : Int} {R : List (Key × Int)} {s : Option Tr} (hL : L = (way, d) :: R) (hs : Step wd o0 way d R o n s) (x : Int) (hx : bar.contains x = false) (hxr : -9223372036854775808 ≤ x ∧ x ≤ 9223372036854775807) :
    Calls Tryd.prog 12 #[.pointer (some ⟨fb, 0, none⟩), .int .i64 x, .string (str way), (toldO wd s).v] w fun e w' => Honest wN bt bu fb mb wd o0 q0 la cap k bar n w e w' := by
  subst hL
  have hwl : way.length ≤ maxLen := by have := hs.len; unfold maxLen; omega
  refine (give_good x _ _ _ _ d way _ _ [] R w h.bel.size hwl hs.ok.hk hs.ok.hv h.okw hs.ok.hl hs.ok.hr hxr (by have := h.bl; omega) h.st hx hs.acc).mono fun e w' ⟨h1, h2, h3, h4⟩ => ?_
  obtain ⟨m, hm, hp⟩ := hs.next
  exact ⟨h1, h3, _, _, m, hm, ⟨h.kt, h.ku, h.top, h.its, h.g0, h.few, h.okw, h2, hp, h.bel.trans h4, h.b0, h.bl⟩⟩
/-- Whatever somebody says. -/
def Said (wN : World) (bt bu fb mb : Nat) (wd : Int) (o0 : Option Tr) (q0 la : Option Addr) (cap k : Nat) (L : List (Key × Int)) (o : Option Tr) (n : Nat) (way : Key) (s : Option Tr) (y : Nd) (w : World) (e : Ending) (w' : World) : Prop :=
  Kt w w' ∧ ∃ code : Int, e = .returned (.int .i64 code) ∧ ((code ≠ 0 ∧ ∃ bar', LawAt wN bt bu fb mb wd o0 q0 la cap (k + 1) L o bar' n w') ∨
    (code = 0 ∧ Below wN.heap.size wN w' ∧ (y = toldO wd s → ∃ L' o' bar' m, m < n ∧ LawAt wN bt bu fb mb wd o0 q0 la cap (k + 1) L' o' bar' m w') ∧
      (overP wd y.k (str y.key) (str y.val) y.pos y.l y.r = overP wd (toldO wd s).k (str (toldO wd s).key) (str (toldO wd s).val) (toldO wd s).pos (toldO wd s).l (toldO wd s).r ∨ (way = [] ∧ wholeP wd y.k (str y.key) (str y.val) y.pos y.l y.r = wholeP wd (toldO wd s).k (str (toldO wd s).key) (str (toldO wd s).val) (toldO wd s).pos (toldO wd s).l (toldO wd s).r))))
theorem LawAt.more (h : LawAt wN bt bu fb mb wd o0 q0 la cap k L o bar n w) : LawAt wN bt bu fb mb wd o0 q0 la cap (k + 1) L o bar n w := ⟨h.kt, h.ku, h.top, h.its, h.g0, h.few, h.okw, h.st, h.pl, h.bel, h.b0, by have := h.bl; omega⟩
theorem LawAt.said (h : LawAt wN bt bu fb mb wd o0 q0 la cap k L o bar n w) (hk : k ≤ 100000) {way : Key} {d : Int} {R : List (Key × Int)} {s : Option Tr} (hL : L = (way, d) :: R) (hs : Step wd o0 way d R o n s) (y : Nd) (hy : y.Ok) (x : Int) (hx : 1 ≤ x ∧ x ≤ 50) :
    Calls Tryd.prog 12 #[.pointer (some ⟨fb, 0, none⟩), .int .i64 x, .string (str way), y.v] w fun e w' => Said wN bt bu fb mb wd o0 q0 la cap k L o n way s y w e w' := by
  have hwl : way.length ≤ maxLen := by have := hs.len; unfold maxLen; omega
  cases hb : bar.contains x with
  | true =>
    exact (give_barred x _ _ _ _ way _ _ w h.bel.size (by omega) h.st hb).mono fun e w' ⟨h1, h2, h3, h4⟩ => ⟨h3, 17, h1, .inl ⟨by omega, bar, h.kt, h.ku, h.top, h.its, h.g0, h.few, h.okw, h2, h.pl, h.bel.trans h4, h.b0, by have := h.bl; omega⟩⟩
  | false =>
    cases hok : okN wd way d y.k y.key y.val y.pos y.l y.r with
    | false =>
      have h0 := h
      subst hL
      refine (give_bad x _ _ _ _ d way _ _ [] R w h.bel.size hwl hy.hk hy.hv h.okw hy.hl hy.hr (by omega) (by have := h.bl; omega) h.st hb hok).mono fun e w' ⟨h1, h2, h3, h4⟩ => ⟨h3, 5, h1, .inl ⟨by omega, bar ++ [x], h.kt, h.ku, h.top, h.its, h.g0, h.few, h.okw, h2, h.pl, h.bel.trans h4, ?_, by have := h.bl; simp; omega⟩⟩
      have hb0 := h.b0
      rw [List.contains_eq_any_beq] at hb0 ⊢
      rw [List.any_append, hb0]
      have : ¬ (0 : Int) = x := by omega
      simp [this]
    | true =>
      subst hL
      refine (give_good x _ _ _ _ d way _ _ [] R w h.bel.size hwl hy.hk hy.hv h.okw hy.hl hy.hr (by omega) (by have := h.bl; omega) h.st hb hok).mono fun e w' ⟨h1, h2, h3, h4⟩ => ⟨h3, 0, h1, .inr ⟨rfl, h.bel.trans h4, fun e => ?_, hs.clash y hok⟩⟩
      subst e
      obtain ⟨m, hm, hp⟩ := hs.next
      exact ⟨_, _, bar, m, hm, ⟨h.kt, h.ku, h.top, h.its, h.g0, h.few, h.okw, h2, hp, h.bel.trans h4, h.b0, by have := h.bl; omega⟩⟩
end
end Go.Proofs.YtemlbcagkjmjgaaDoor
