/- FetchExact: both fetches side by side: what each call makes of them. -/
import Derived.Test.YtmhllihedejehaaGreatGBad
import Derived.Test.YtmhllihedejehaaGreatGGood
import Derived.Test.YtmhllihedejehaaGreatM35
import Derived.Test.YtmhllihedejehaaGreatM39
import Derived.Test.YtmhllihedejehaaGreatM29
import Derived.Test.YtmhllihedejehaaGreatGGrow
import Derived.Test.YtmhllihedejehaaGreatZRAt
import Derived.Test.YtmhllihedejehaaGreatTItems2
namespace Go.Proofs.YtmhllihedejehaaGreat
open Go.RowKit Go.Maps
set_option linter.unusedVariables false
set_option linter.unusedSimpArgs false

theorem Good.fineG {o : Option Tr} (h : Good o) (hn : (itemsO o).length ≤ 100000) : FineO o := fun t e => by
  subst e
  exact ⟨h.wf, h.placed t rfl, fun x hx => ⟨(h.keys x hx).1, (h.keys x hx).2.1⟩, hn⟩
theorem goP_subG : ∀ (way : Key) (o : Option Tr) (t : Tr), goP way o = some (some t) → wfO o → t.wf ∧ ∀ x ∈ t.items, x ∈ itemsO o
  | [], o, t, h, hw => by injection h with h; subst h; exact ⟨hw, fun x hx => hx⟩
  | c :: r, none, t, h, hw => by cases h
  | c :: r, some (.leaf k v), t, h, hw => by cases h
  | c :: r, some (.fork p l q), t, h, hw => by
    have h : goP r (some (if c = 48 then l else q)) = some (some t) := h
    by_cases hc : c = 48
    · rw [if_pos hc] at h
      obtain ⟨h1, h2⟩ := goP_subG r (some l) t h hw.1
      exact ⟨h1, fun x hx => List.mem_append_left _ (h2 x hx)⟩
    · rw [if_neg hc] at h
      obtain ⟨h1, h2⟩ := goP_subG r (some q) t h hw.2.1
      exact ⟨h1, fun x hx => List.mem_append_right _ (h2 x hx)⟩
/-- What At tells is a node that may be held. -/
theorem nodeV_ok (wd : Int) (o : Option Tr) (t : Tr) (hw : t.wf) (hk : ∀ x ∈ t.items, x.1.length ≤ 32 ∧ x.2.length ≤ 4096) : ∃ y : Nd, nodeV wd (some t) = y.v ∧ y.Ok := by
  have hm : (4096 : Nat) ≤ maxLen := by unfold maxLen; omega
  cases t with
  | leaf k v =>
    obtain ⟨h1, h2⟩ := hk (k, v) (by simp [Tr.items])
    simp only at h1 h2
    exact ⟨⟨1, k, v, 0, 0, 0⟩, rfl, ⟨Nat.le_trans (show k.length ≤ 4096 by omega) hm, Nat.le_trans h2 hm, by simp, by simp, by simp⟩⟩
  | fork p l r =>
    have hp : p < 288 := by
      rcases Nat.lt_or_ge p 288 with h | h
      · exact h
      · obtain ⟨x, hx⟩ := r.any
        have h1 := hw.2.2.2.1 x hx
        rw [bit_far x.1 p (hk x (by simp [Tr.items, hx])).1 h] at h1
        cases h1
    exact ⟨⟨2, [], [], p, l.dig wd, r.dig wd⟩, rfl, ⟨Nat.zero_le _, Nat.zero_le _, l.dig_bd wd, r.dig_bd wd, by simp; omega⟩⟩
theorem none_ok (wd : Int) : ∃ y : Nd, nodeV wd none = y.v ∧ y.Ok := ⟨⟨0, [], [], 0, 0, 0⟩, rfl, ⟨Nat.zero_le _, Nat.zero_le _, by simp, by simp, by simp⟩⟩
theorem at_nd (wd : Int) (way : Key) (o : Option Tr) (hg : Good o) : ∃ (y : Nd) (c : Int), atP wd way o = (y.v, c) ∧ y.Ok := by
  unfold atP
  split
  · cases hgo : goP way o with
    | none =>
      obtain ⟨y, h1, h2⟩ := none_ok wd
      exact ⟨y, 30, by simp only [h1], h2⟩
    | some s =>
      cases s with
      | none =>
        obtain ⟨y, h1, h2⟩ := none_ok wd
        exact ⟨y, 0, by simp only [h1], h2⟩
      | some t =>
        obtain ⟨h1, h2⟩ := goP_subG way o t hgo hg.wf
        obtain ⟨y, h3, h4⟩ := nodeV_ok wd o t h1 fun x hx => ⟨(hg.keys x (h2 x hx)).1, (hg.keys x (h2 x hx)).2.1⟩
        exact ⟨y, 0, by simp only [h3], h4⟩
  · obtain ⟨y, h1, h2⟩ := none_ok wd
    exact ⟨y, 2, by simp only [h1], h2⟩

/-- Places are no deeper than the ways of what is wanted are long. -/
theorem PT.depth_leG (N : Nat) : ∀ (t : PT) (p : Key), t.isNo = false → (∀ x ∈ t.wants p, x.1.length ≤ N) → p.length + t.depth ≤ N + 1
  | .no, p, h, _ => by cases h
  | .is b d l r, p, _, h => by
    unfold PT.wants at h
    by_cases hc : (l.isNo && r.isNo) = true
    · rw [if_pos hc] at h
      have := h (p, d) (by simp)
      have hc2 : l.isNo = true ∧ r.isNo = true := by simpa using hc
      rw [PT.eq_no hc2.1, PT.eq_no hc2.2]
      simp only [PT.depth] at *
      omega
    · rw [if_neg hc] at h
      have hl : l.isNo = false → p.length + 1 + l.depth ≤ N + 1 := fun hl => by
        have := PT.depth_leG N l (p ++ [48]) hl fun x hx => h x (List.mem_append_left _ hx)
        simpa using this
      have hr : r.isNo = false → p.length + 1 + r.depth ≤ N + 1 := fun hr => by
        have := PT.depth_leG N r (p ++ [49]) hr fun x hx => h x (List.mem_append_right _ hx)
        simpa using this
      have zl : l.isNo = true → l.depth = 0 := fun q => by rw [PT.eq_no q]; rfl
      have zr : r.isNo = true → r.depth = 0 := fun q => by rw [PT.eq_no q]; rfl
      simp only [PT.depth]
      cases h1 : l.isNo <;> cases h2 : r.isNo
      · have := hl h1; have := hr h2; omega
      · have := hl h1; have := zr h2; omega
      · have := zl h1; have := hr h2; omega
      · rw [h1, h2] at hc; exact (hc rfl).elim

/-- Both fetches after k steps; all that came ahead of them lies in wN. -/
structure Pr (wN : World) (bu fb mb gb : Nat) (wd : Int) (o0 : Option Tr) (la : Option Addr) (cap k : Nat) (L : List (Key × Int)) (o : Option Tr) (bar sb : List Int) (w : World) : Prop where
  ku : Blk wN bu #[.int .i64 wd, .slice la (itemsO o0).length cap] 36
  its : ItemsAt wN la (itemsO o0)
  hcap : (itemsO o0).length ≤ cap
  g0 : Good o0
  few : (itemsO o0).length ≤ 1024
  okw : okW wd
  st : St wN.heap.size w fb wd (rootP wd o0) mb L o bar
  rs : RSt w gb wd (rootP wd o0) L o sb
  pm : sb.Perm bar
  ri : sb.Pairwise fun a b => a ≤ b
  nd : bar.Nodup
  bl : bar.length ≤ k
  lw : ∀ x ∈ L, x.1.length ≤ k
  ll : L.length ≤ k + 1
  lo : (itemsO o).length ≤ k
  bel : Below wN.heap.size wN w
  gge : wN.heap.size ≤ gb
section
variable {wN w w' : World} {bu fb mb gb : Nat} {wd : Int} {o0 : Option Tr} {la : Option Addr} {cap k : Nat} {L : List (Key × Int)} {o : Option Tr} {bar sb : List Int}
theorem Pr.next (h : Pr wN bu fb mb gb wd o0 la cap k L o bar sb w) (hb : Below w.heap.size w w') : Pr wN bu fb mb gb wd o0 la cap k L o bar sb w' :=
  { h with st := h.st.below hb, rs := h.rs.below hb, bel := h.bel.trans (hb.mono h.bel.size) }
theorem Pr.good (h : Pr wN bu fb mb gb wd o0 la cap k L o bar sb w) : Good o := by
  obtain ⟨pt, q, H, _⟩ := h.st
  exact H.gd
theorem Pr.nodup (h : Pr wN bu fb mb gb wd o0 la cap k L o bar sb w) : (L.map Prod.fst).Nodup := by
  obtain ⟨pt, q, H, e⟩ := h.st
  rw [← e]
  exact PT.wants_nodup pt []
/-- The ways that are wanted, as a row. -/
def WaysE (W : List Key) (w : World) (e : Ending) (w' : World) : Prop := ∃ v, e = .returned v ∧ w'.ownsRow w.heap.size 9 1 v W.length (strs W) ∧ Below w.heap.size w w'
theorem Pr.wants (h : Pr wN bu fb mb gb wd o0 la cap k L o bar sb w) (hk : k ≤ 1000) (m : Int) (hm : 0 ≤ m ∧ m ≤ 1000000) :
    Calls Tryz.prog 10 #[.pointer (some ⟨fb, 0, none⟩), .int .i64 m] w fun e w' => WaysE ((L.map Prod.fst).take m.toNat) w e w' := by
  obtain ⟨pt, q, H, eL⟩ := h.st
  have hd : pt.depth ≤ 100000000 := by
    cases hn : pt.isNo with
    | true => rw [PT.eq_no hn]; exact Nat.zero_le _
    | false =>
      have := PT.depth_leG 1000 pt [] hn (by rw [eL]; exact fun x hx => Nat.le_trans (h.lw x hx) hk)
      simp at this
      omega
  refine (wants_any fb _ _ _ _ _ pt m w hm H.k H.pl hd).mono fun e w' ⟨v, he, hr, hb⟩ => ⟨v, he, ?_, hb⟩
  have e1 : pt.ways [] = L.map Prod.fst := by rw [← eL]; rfl
  rw [e1] at hr
  exact hr
theorem Pr.rwants (h : Pr wN bu fb mb gb wd o0 la cap k L o bar sb w) (hk : k ≤ 1000) (m : Int) (hm : 0 ≤ m ∧ m ≤ 1000000) :
    Calls Tryz.prog 11 #[.pointer (some ⟨gb, 0, none⟩), .int .i64 m] w fun e w' => WaysE ((L.map Prod.fst).take m.toNat) w e w' := by
  obtain ⟨base, vL, vB, li, ci, H, hi, hc⟩ := h.rs
  exact rwants_any gb base wd _ m L o sb vL vB li ci w hm (by have := h.ll; omega) H
theorem Pr.at_ (h : Pr wN bu fb mb gb wd o0 la cap k L o bar sb w) (way : Key) (hw : way.length ≤ 100000) :
    ∃ (y : Nd) (c : Int), y.Ok ∧ ∀ w', Below wN.heap.size wN w' → Calls Tryz.prog 12 #[.agg #[.int .i64 wd, .slice la (itemsO o0).length cap], .string (str way)] w' fun e w'' => e = .returned (.tuple #[y.v, .int .i64 c]) ∧ Below w'.heap.size w' w'' := by
  obtain ⟨y, c, h1, h2⟩ := at_nd wd way o0 h.g0
  refine ⟨y, c, h2, fun w' hb => ?_⟩
  have h3 := rat_any wd o0 la cap way w' h.okw (by unfold maxLen; omega) (h.g0.fineG (by have := h.few; omega)) h.hcap (h.its.below hb)
  rw [h1] at h3
  exact h3
/-- What Give leaves of the program's, and what the answer's Give then does. -/
def GaveE (wN : World) (bu fb mb gb : Nat) (wd : Int) (o0 : Option Tr) (la : Option Addr) (cap k : Nat) (x : Int) (way : Key) (y : Nd) (w : World) (e : Ending) (w' : World) : Prop :=
  ∃ code : Int, e = .returned (.int .i64 code) ∧ Kt w w' ∧ Below wN.heap.size wN w' ∧ ∀ w2, Below w'.heap.size w' w2 → Calls Tryz.prog 15 #[.pointer (some ⟨gb, 0, none⟩), .int .i64 x, .string (str way), y.v] w2 fun e w3 => e = .returned (.int .i64 code) ∧ Only gb w2 w3 ∧
    (∃ cs, Blk w2 gb cs 55) ∧ ∃ L' o' bar' sb', Pr wN bu fb mb gb wd o0 la cap (k + 1) L' o' bar' sb' w3
theorem Pr.two {code : Int} {L' : List (Key × Int)} {o' : Option Tr} {bar' sb' : List Int} {x : Int} {way : Key} {y : Nd} (h : Pr wN bu fb mb gb wd o0 la cap k L o bar sb w)
    (h1 : Calls Tryz.prog 14 #[.pointer (some ⟨fb, 0, none⟩), .int .i64 x, .string (str way), y.v] w fun e w' => Gave wN.heap.size w fb wd (rootP wd o0) mb L' o' bar' code e w')
    (h2 : ∀ w2, RSt w2 gb wd (rootP wd o0) L o sb → Calls Tryz.prog 15 #[.pointer (some ⟨gb, 0, none⟩), .int .i64 x, .string (str way), y.v] w2 fun e w3 => RGave w2 gb wd (rootP wd o0) L' o' sb' code e w3)
    (pm : sb'.Perm bar') (ri : sb'.Pairwise fun a b => a ≤ b) (nd : bar'.Nodup) (bl : bar'.length ≤ k + 1) (lw : ∀ z ∈ L', z.1.length ≤ k + 1) (ll : L'.length ≤ k + 1 + 1) (lo : (itemsO o').length ≤ k + 1) :
    Calls Tryz.prog 14 #[.pointer (some ⟨fb, 0, none⟩), .int .i64 x, .string (str way), y.v] w fun e w' => GaveE wN bu fb mb gb wd o0 la cap k x way y w e w' := by
  refine h1.mono fun e w' ⟨he, hst, hkt, hbl⟩ => ⟨code, he, hkt, h.bel.trans hbl, fun w2 hb2 => ?_⟩
  have hr2 := (h.rs.kt hkt).below hb2
  refine (h2 w2 hr2).mono fun e w3 ⟨he3, hr3, ho3⟩ => ⟨he3, ho3, hr2.blk, L', o', bar', sb', ?_⟩
  obtain ⟨cs, kg⟩ := hr2.blk
  have hbe : Below wN.heap.size w2 w3 := ⟨ho3.env.1, ho3.env.2.1, ho3.env.2.2, ho3.size, fun j hj => ho3.same j (by have := h.bel.size; have := hbl.size; have := hb2.size; omega) (by have := h.gge; omega)⟩
  exact ⟨h.ku, h.its, h.hcap, h.g0, h.few, h.okw, (hst.below hb2).oth kg ho3, hr3, pm, ri, nd, bl, lw, ll, lo, ((h.bel.trans hbl).trans (hb2.mono (Nat.le_trans h.bel.size hbl.size))).trans hbe, h.gge⟩
theorem mem_split {way : Key} : ∀ {L : List (Key × Int)}, way ∈ L.map Prod.fst → ∃ A d B, L = A ++ (way, d) :: B ∧ way ∉ A.map Prod.fst
  | [], h => by cases h
  | (u, d) :: r, h => by
    by_cases e : u = way
    · exact ⟨[], d, r, by rw [e]; rfl, by simp⟩
    · rcases List.mem_cons.1 h with q | q
      · exact (e q.symm).elim
      · obtain ⟨A, d', B, h1, h2⟩ := mem_split q
        exact ⟨(u, d) :: A, d', B, by rw [h1]; rfl, by
          simp only [List.map_cons, List.mem_cons, not_or]
          exact ⟨fun q => e q.symm, h2⟩⟩
theorem Pr.give (h : Pr wN bu fb mb gb wd o0 la cap k L o bar sb w) (hk : k ≤ 1000) (x : Int) (hx : -9223372036854775808 ≤ x ∧ x ≤ 9223372036854775807) (way : Key) (hw : way.length ≤ 100000) (y : Nd) (hy : y.Ok) :
    Calls Tryz.prog 14 #[.pointer (some ⟨fb, 0, none⟩), .int .i64 x, .string (str way), y.v] w fun e w' => GaveE wN bu fb mb gb wd o0 la cap k x way y w e w' := by
  have hwm : way.length ≤ maxLen := by unfold maxLen; omega
  have hbl := h.bl
  have hll := h.ll
  have hlo := h.lo
  have hsb : sb.length = bar.length := h.pm.length_eq
  have lw1 : ∀ z ∈ L, z.1.length ≤ k + 1 := fun z hz => Nat.le_succ_of_le (h.lw z hz)
  cases hbx : bar.contains x with
  | true =>
    have hm : x ∈ sb := h.pm.mem_iff.2 (by simpa using hbx)
    exact h.two (give_barred x _ _ _ _ way _ _ w h.bel.size hx h.st hbx) (fun w2 hr => rgives_barred x _ _ _ _ way _ _ w2 (by omega) hr hm) h.pm h.ri h.nd (by omega) lw1 (by omega) (by omega)
  | false =>
    have hm : ¬ x ∈ sb := fun q => by
      have := h.pm.mem_iff.1 q
      have : bar.contains x = true := by simpa using this
      rw [hbx] at this
      cases this
    by_cases hin : way ∈ L.map Prod.fst
    · obtain ⟨A, d, B, rfl, hA⟩ := mem_split hin
      cases hok : okN wd way d y.k y.key y.val y.pos y.l y.r with
      | false =>
        refine h.two (give_bad x _ _ _ _ d way _ _ A B w h.bel.size hwm hy.hk hy.hv h.okw hy.hl hy.hr hx (by omega) h.st hbx hok) (fun w2 hr => rgives_bad x _ _ _ _ d way _ _ A B w2 (by omega) (by omega) h.okw hy.hk hy.hv hy.hp hy.hl hy.hr hr hm hA hok) ?_ (insR_rises x sb h.ri) ?_ (by simp; omega) lw1 (by omega) (by omega)
        · exact ((insR_perm x sb).trans (h.pm.cons x)).trans (List.perm_append_singleton x bar).symm
        · rw [List.nodup_append]
          refine ⟨h.nd, by simp, fun a ha b hb e => ?_⟩
          simp at hb
          subst hb
          subst e
          exact hm (h.pm.mem_iff.2 ha)
      | true =>
        refine h.two (give_good x _ _ _ _ d way _ _ A B w h.bel.size hwm hy.hk hy.hv h.okw hy.hl hy.hr hx (by omega) h.st hbx hok) (fun w2 hr => rgives_good x _ _ _ _ d way _ _ A B w2 (by omega) (by omega) h.okw hw h.good (by omega) hy.hk hy.hv hy.hp hy.hl hy.hr hr hm hA hok) h.pm h.ri h.nd (by omega) ?_ ?_ ?_
        · intro z hz
          have hwk := h.lw (way, d) (by simp)
          simp only at hwk
          unfold newW at hz
          rcases List.mem_append.1 hz with q | q
          · exact Nat.le_succ_of_le (h.lw z (by simp [q]))
          · rcases List.mem_append.1 q with q | q
            · split at q
              · simp only [List.mem_cons, List.not_mem_nil, or_false] at q
                rcases q with rfl | rfl <;> simp <;> omega
              · cases q
            · exact Nat.le_succ_of_le (h.lw z (by simp [q]))
        · have e1 : (newW way y.k y.l y.r).length ≤ 2 := by
            unfold newW
            split <;> simp
          simp only [List.length_append, List.length_cons] at hll ⊢
          omega
        · have hmay : mayN y.k y.key y.val y.pos y.l y.r = true := by
            unfold okN at hok
            simp only [Bool.and_eq_true] at hok
            exact hok.1
          unfold newO
          split
          · rename_i h1
            rcases may_kind hmay with q | ⟨_, q1, q2⟩ | q
            · omega
            · rw [(putO_spec y.key y.val o h.good q1 q2).2]
              have := putGo_len y.key y.val (itemsO o)
              cases (y.val == []) <;> omega
            · omega
          · omega
    · exact h.two (give_none x _ _ _ _ way _ _ w h.bel.size hwm hx h.st hbx hin) (fun w2 hr => by
        have hr0 := hr
        obtain ⟨base, vL, vB, li, ci, H, hi, hc⟩ := hr
        exact (rgive_none x _ _ _ _ way _ _ w2 (by omega) (by omega) H hm hin).mono fun e w3 ⟨q1, q2⟩ => ⟨q1, hr0.below q2, Only.of_below q2⟩) h.pm h.ri h.nd (by omega) lw1 (by omega) (by omega)
/-- Those who are barred, as a row. -/
theorem Pr.barred (h : Pr wN bu fb mb gb wd o0 la cap k L o bar sb w) (hk : k ≤ 1000) :
    Calls Tryz.prog 16 #[.pointer (some ⟨fb, 0, none⟩)] w fun e w' => ∃ v, e = .returned v ∧ w'.ownsRow w.heap.size 3 1 v sb.length (flatI sb) ∧ Below w.heap.size w w' := by
  obtain ⟨pt, q, H, eL⟩ := h.st
  have hbl := h.bl
  refine (barred_any _ fb wd _ pt o bar q mb w H (by rw [(bar_keys bar h.nd).2]; omega)).mono fun e w' ⟨v, ss, he, hp, hr, hb⟩ => ⟨v, he, ?_, hb⟩
  have e1 := sorted_bar hp h.nd h.pm h.ri
  have e2 : ss.length = sb.length := by rw [← e1, List.length_mergeSort]
  rw [e1, e2] at hr
  exact hr
theorem Pr.done (h : Pr wN bu fb mb gb wd o0 la cap k L o bar sb w) : Calls Tryz.prog 17 #[.pointer (some ⟨fb, 0, none⟩)] w fun e w' => DoneE w wd (rootP wd o0) L o e w' := done_any w h.okw h.st
theorem Pr.rdone (h : Pr wN bu fb mb gb wd o0 la cap k L o bar sb w) (hk : k ≤ 1000) : Calls Tryz.prog 18 #[.pointer (some ⟨gb, 0, none⟩)] w fun e w' => ∃ li ci, ItemsAt w li (itemsO o) ∧ (itemsO o).length ≤ ci ∧ RDoneE w wd (rootP wd o0) L o li ci e w' := by
  obtain ⟨base, vL, vB, li, ci, H, hi, hc⟩ := h.rs
  have hll := h.ll
  have hlo := h.lo
  exact (rdone_any gb base wd _ L o sb vL vB li ci w h.okw (by omega) (h.good.fineG (by omega)) hc hi H).mono fun e w' q => ⟨li, ci, hi, hc, q⟩
end
end Go.Proofs.YtmhllihedejehaaGreat
