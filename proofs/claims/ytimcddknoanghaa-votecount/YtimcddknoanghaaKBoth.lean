/- Both counts tell the same. -/
import Derived.Test.YtimcddknoanghaaKGA
import Derived.Test.YtimcddknoanghaaKRBest
import Derived.Test.YtimcddknoanghaaKRAhead
import Derived.Test.YtimcddknoanghaaKBest
import Derived.Test.YtimcddknoanghaaKAhead
import Derived.Test.YtimcddknoanghaaKRef
import Derived.Test.YtimcddknoanghaaBSeat
import Derived.Test.YtimcddknoanghaaWTop
namespace Go.Proofs.Ytimcddknoanghaa
open Go.RowKit Go.Maps
set_option linter.unusedVariables false
set_option linter.unusedSimpArgs false

theorem GoodB.in_ {x : List (Int × Int)} (h : GoodB x) : ∀ z ∈ x, -9223372036854775808 ≤ z.1 ∧ z.1 ≤ 9223372036854775807 := fun z hz => by
  have := h.may z hz
  unfold MayS at this
  omega
theorem GoodB.l64 {x : List (Int × Int)} (h : GoodB x) : x.length ≤ 64 := by have := h.few; omega
/-- Both counts of one bench, with the same votes, n at most. -/
structure Both (w0 wv : World) (cb rb : Nat) (x : List (Int × Int)) (ht : Int) (L : List Vt) (la : Option Addr) (lc n : Nat) : Prop where
  ex : ∃ base mb sa sc xa xc bs m rv rs, Two wv base cb mb sa sc rb xa xc la lc bs x ht m L rv rs ∧ Cnt x ht m L rs ∧ rs.length ≤ n ∧ w0.heap.size ≤ base ∧ w0.heap.size ≤ mb
  gb : GoodB x
  few : L.length ≤ n
  bel : Below w0.heap.size w0 wv
  cb0 : w0.heap.size ≤ cb
  rb0 : w0.heap.size ≤ rb
theorem Both.next {w0 wv w' : World} {cb rb : Nat} {x : List (Int × Int)} {ht : Int} {L : List Vt} {la : Option Addr} {lc n : Nat} (H : Both w0 wv cb rb x ht L la lc n) (hb : Below wv.heap.size wv w') : Both w0 w' cb rb x ht L la lc n := by
  obtain ⟨base, mb, sa, sc, xa, xc, bs, m, rv, rs, T, C, h1, h2, h3⟩ := H.ex
  exact ⟨⟨base, mb, sa, sc, xa, xc, bs, m, rv, rs, T.below hb, C, h1, h2, h3⟩, H.gb, H.few, H.bel.trans (hb.mono H.bel.size), H.cb0, H.rb0⟩
theorem Both.cells {w0 wv : World} {cb rb : Nat} {x : List (Int × Int)} {ht : Int} {L : List Vt} {la : Option Addr} {lc n : Nat} (H : Both w0 wv cb rb x ht L la lc n) : cb < wv.heap.size ∧ rb < wv.heap.size ∧ wv.cell? ⟨rb, 2, none⟩ = some (.slice la L.length lc) ∧ VotesAt wv la L := by
  obtain ⟨base, mb, sa, sc, xa, xc, bs, m, rv, rs, T, C, h1, h2, h3⟩ := H.ex
  exact ⟨T.P.k.lt, T.R.k.lt, (T.R.k.cell 2).trans rfl, T.R.votes⟩
theorem Cnt.rin {x : List (Int × Int)} {ht : Int} {m L : List Vt} {rs : List Int} (C : Cnt x ht m L rs) : ∀ r ∈ rs, -9223372036854775808 ≤ r ∧ r ≤ 9223372036854775807 := fun r hr => by
  obtain ⟨v, hv, rfl⟩ := (C.rmem r).1 hr
  exact (C.ok v hv).2.2.2.2.1
theorem Both.votes {w0 wv : World} {cb rb : Nat} {x : List (Int × Int)} {ht : Int} {L : List Vt} {la : Option Addr} {lc n : Nat} (H : Both w0 wv cb rb x ht L la lc n) (hn : n ≤ 512) :
    Calls Try.prog 8 #[.pointer (some ⟨cb, 0, none⟩)] wv fun e w' => (∃ ma mc, e = .returned (.slice ma L.length mc) ∧ VotesAt w' ma L) ∧ Below wv.heap.size wv w' := by
  obtain ⟨base, mb, sa, sc, xa, xc, bs, m, rv, rs, T, C, h1, h2, h3⟩ := H.ex
  obtain ⟨ra, rc, rfl, hR⟩ := IntsAt.of_owns (m := rs) T.P.rounds
  have h := votes_any base cb mb sa sc x ht m ra rc rs wv T.P hR H.gb.l64 H.gb.in_ (by omega) C.rin
  rw [votes_eq C H.gb.rises] at h
  refine h.mono ?_
  rintro e w' ⟨⟨v, rfl, ho⟩, hb⟩
  obtain ⟨ma, mc, rfl, hv⟩ := VotesAt.of_owns ho
  exact ⟨⟨ma, mc, rfl, hv⟩, hb⟩

/-- A cert and whether there is one, given. -/
def CertB (base : Nat) (h r s : Int) (has : Bool) (bl : Int) (fr : List Int) (ok : Bool) (e : Ending) (w' : World) : Prop :=
  ∃ fa fc, e = .returned (.tuple #[.agg #[.int .i64 h, .int .i64 r, .int .i64 s, .bool has, .int .u64 bl, .slice fa fr.length fc], .bool ok]) ∧ IntsAt w' fa fr ∧ ∀ a, fa = some a → base ≤ a.block
theorem CertE.form (ht : Int) (o : Option Ct) (hf : ∀ c, o = some c → c.fr.length ≤ 512) : ∃ h r s has bl fr ok, List.length fr ≤ 512 ∧ ∀ base e w', CertE base ht o e w' → CertB base h r s has bl fr ok e w' := by
  cases o with
  | some c => exact ⟨ht, c.r, c.s, c.has, c.bl, c.fr, true, hf c rfl, fun base e w' h => h⟩
  | none => exact ⟨0, 0, 0, false, 0, [], false, by simp, fun base e w' h => ⟨none, 0, h, .inl rfl, fun a ha => by cases ha⟩⟩
/-- Two functions give the same cert. -/
def TwoC (wv : World) (f g : Nat) (A B : Array Value) : Prop := ∃ h r s has bl fr ok, List.length fr ≤ 512 ∧
  (∀ w', Below wv.heap.size wv w' → Calls Try.prog f A w' fun e w'' => CertB w'.heap.size h r s has bl fr ok e w'' ∧ Below w'.heap.size w' w'') ∧
  (∀ w', Below wv.heap.size wv w' → Calls Try.prog g B w' fun e w'' => CertB w'.heap.size h r s has bl fr ok e w'' ∧ Below w'.heap.size w' w'')
theorem TwoC.of {wv : World} {f g : Nat} {A B : Array Value} {ht : Int} {o : Option Ct} (hf : ∀ c, o = some c → c.fr.length ≤ 512) (h1 : ∀ w', Below wv.heap.size wv w' → Calls Try.prog f A w' fun e w'' => CertE w'.heap.size ht o e w'' ∧ Below w'.heap.size w' w'')
    (h2 : ∀ w', Below wv.heap.size wv w' → Calls Try.prog g B w' fun e w'' => CertE w'.heap.size ht o e w'' ∧ Below w'.heap.size w' w'') : TwoC wv f g A B := by
  obtain ⟨h, r, s, has, bl, fr, ok, hl, hF⟩ := CertE.form ht o hf
  exact ⟨h, r, s, has, bl, fr, ok, hl, fun w' hb => (h1 w' hb).mono fun e w'' q => ⟨hF _ _ _ q.1, q.2⟩, fun w' hb => (h2 w' hb).mono fun e w'' q => ⟨hF _ _ _ q.1, q.2⟩⟩
theorem leadC_few {x : List (Int × Int)} {A : List Vt} {r s : Int} {c : Ct} (h : leadC x A r s = some c) : c.fr.length ≤ A.length := by
  unfold leadC at h
  obtain ⟨v, _, rfl⟩ := Option.map_eq_some_iff.1 h
  simp only [List.length_map]
  exact alike_len _ _
theorem forB_some {o : Option Ct} {c : Ct} (h : forB o = some c) : o = some c := by
  unfold forB at h
  split at h
  · split at h
    · exact h
    · cases h
  · cases h
theorem ptr_lead {w0 wv : World} {cb rb : Nat} {x : List (Int × Int)} {ht : Int} {L : List Vt} {la : Option Addr} {lc n : Nat} (H : Both w0 wv cb rb x ht L la lc n) (hn : n ≤ 512) : ∃ m rs, Cnt x ht m L rs ∧
    (∀ r s, (-9223372036854775808 ≤ r ∧ r ≤ 9223372036854775807) → (-9223372036854775808 ≤ s ∧ s ≤ 9223372036854775807) → ∀ w', Below wv.heap.size wv w' → Calls Try.prog 13 #[.pointer (some ⟨cb, 0, none⟩), .int .i64 r, .int .i64 s] w' fun e w'' => CertE w'.heap.size ht (leadC x (ofRS L r s) r s) e w'' ∧ Below w'.heap.size w' w'') ∧
    (∀ r s, ∀ w', Below wv.heap.size wv w' → Calls Try.prog 14 #[.pointer (some ⟨rb, 0, none⟩), .int .i64 r, .int .i64 s] w' fun e w'' => CertE w'.heap.size ht (leadC x (ofRS L r s) r s) e w'' ∧ Below w'.heap.size w' w'') := by
  obtain ⟨base, mb, sa, sc, xa, xc, bs, m, rv, rs, T, C, h1, h2, h3⟩ := H.ex
  have hL := H.few
  refine ⟨m, rs, C, fun r s hr hs w' hb => ?_, fun r s w' hb => rlead_any rb xa xc x ht la lc L r s w' (T.R.below hb) H.gb.l64 H.gb.w (by omega)⟩
  have h := lead_ct base cb mb sa sc x ht m rv rs r s w' (T.P.below hb) H.gb.l64 H.gb.in_ H.gb.w hr hs
  rw [atP_eq C H.gb.rises] at h
  exact h
theorem Both.lead {w0 wv : World} {cb rb : Nat} {x : List (Int × Int)} {ht : Int} {L : List Vt} {la : Option Addr} {lc n : Nat} (H : Both w0 wv cb rb x ht L la lc n) (hn : n ≤ 512) (r s : Int) (hr : -9223372036854775808 ≤ r ∧ r ≤ 9223372036854775807) (hs : -9223372036854775808 ≤ s ∧ s ≤ 9223372036854775807) :
    TwoC wv 13 14 #[.pointer (some ⟨cb, 0, none⟩), .int .i64 r, .int .i64 s] #[.pointer (some ⟨rb, 0, none⟩), .int .i64 r, .int .i64 s] := by
  obtain ⟨m, rs, C, h1, h2⟩ := ptr_lead H hn
  have hL := H.few
  exact TwoC.of (fun c hc => Nat.le_trans (leadC_few hc) (by have := ofRS_len L r s; omega)) (h1 r s hr hs) (h2 r s)
theorem Both.closed {w0 wv : World} {cb rb : Nat} {x : List (Int × Int)} {ht : Int} {L : List Vt} {la : Option Addr} {lc n : Nat} (H : Both w0 wv cb rb x ht L la lc n) (hn : n ≤ 512) :
    TwoC wv 9 10 #[.pointer (some ⟨cb, 0, none⟩)] #[.pointer (some ⟨rb, 0, none⟩)] := by
  obtain ⟨m0, rs0, C0, k1, k2⟩ := ptr_lead H hn
  obtain ⟨base, mb, sa, sc, xa, xc, bs, m, rv, rs, T, C, h1, h2, h3⟩ := H.ex
  obtain ⟨ra, rc, rfl, hR⟩ := IntsAt.of_owns (m := rs) T.P.rounds
  have hL := H.few
  have e := closed_eq C H.gb.rises
  simp only [atP_eq C H.gb.rises] at e
  refine TwoC.of (ht := ht) (o := L.findSome? fun v => if v.s = 2 then forB (leadC x (ofRS L v.r 2) v.r 2) else none) (fun c hc => ?_) (fun w0 hb0 => ?_) (fun w' hb => ?_)
  · obtain ⟨v, hv, q⟩ := List.exists_of_findSome?_eq_some hc
    split at q
    · exact Nat.le_trans (leadC_few (forB_some q)) (by have := ofRS_len L v.r 2; omega)
    · cases q
  · have P := T.P.below hb0
    have a1 := closed_any cb ht ra rc rs (fun r => forB (leadC x (ofRS L r 2) r 2)) w0 P.k.lt ((P.k.cell 3).trans rfl) (hR.below hb0) (by omega) (fun r hr w' hb => leadFor_any cb ht r 2 _ w' fun w'' hb2 => k1 r 2 (C.rin r hr) (by omega) w'' ((hb0.trans (hb.mono hb0.size)).trans (hb2.mono (Nat.le_trans hb0.size hb.size))))
    rw [e] at a1
    exact a1
  · have R := T.R.below hb
    exact rclosed_any rb ht la lc L (fun r => leadC x (ofRS L r 2) r 2) w' R.k.lt ((R.k.cell 2).trans rfl) R.votes (by omega) (fun v hv _ w'' hb2 => k2 v.r 2 w'' (hb.trans (hb2.mono hb.size)))
theorem tns {rs : List Int} (h : ∀ r ∈ rs, -9223372036854775808 ≤ r ∧ r ≤ 9223372036854775807) : ∃ zs : List Tn, zs.map (·.1) = rs :=
  ⟨rs.pmap (fun r hr => ⟨r, hr⟩) h, by rw [List.map_pmap]; simp⟩
theorem Both.best {w0 wv : World} {cb rb : Nat} {x : List (Int × Int)} {ht : Int} {L : List Vt} {la : Option Addr} {lc n : Nat} (H : Both w0 wv cb rb x ht L la lc n) (hn : n ≤ 512) (rd : Int) :
    TwoC wv 19 20 #[.pointer (some ⟨cb, 0, none⟩), .int .i64 rd] #[.pointer (some ⟨rb, 0, none⟩), .int .i64 rd] := by
  obtain ⟨m0, rs0, C0, k1, k2⟩ := ptr_lead H hn
  obtain ⟨base, mb, sa, sc, xa, xc, bs, m, rv, rs, T, C, h1, h2, h3⟩ := H.ex
  obtain ⟨ra, rc, rfl, hR⟩ := IntsAt.of_owns (m := rs) T.P.rounds
  obtain ⟨zs, hz⟩ := tns C.rin
  have hzl : zs.length = rs.length := by rw [← hz, List.length_map]
  have hL := H.few
  have e := best_eq C H.gb.rises rd
  simp only [atP_eq C H.gb.rises] at e
  refine TwoC.of (ht := ht) (o := L.reverse.findSome? fun v => if v.s = 1 ∧ v.r ≤ rd then forB (leadC x (ofRS L v.r 1) v.r 1) else none) (fun c hc => ?_) (fun w0 hb0 => ?_) (fun w' hb => ?_)
  · obtain ⟨v, hv, q⟩ := List.exists_of_findSome?_eq_some hc
    split at q
    · exact Nat.le_trans (leadC_few (forB_some q)) (by have := ofRS_len L v.r 1; omega)
    · cases q
  · have P := T.P.below hb0
    have a1 := best_any cb ht rd ra rc zs (fun r => forB (leadC x (ofRS L r 1) r 1)) w0 P.k.lt (by rw [hzl]; exact (P.k.cell 3).trans rfl) (by rw [hz]; exact hR.below hb0) (by omega) (fun r w' hb => leadFor_any cb ht r.1 1 _ w' fun w'' hb2 => k1 r.1 1 r.2 (by omega) w'' ((hb0.trans (hb.mono hb0.size)).trans (hb2.mono (Nat.le_trans hb0.size hb.size))))
    rw [hz, e] at a1
    exact a1
  · have R := T.R.below hb
    exact rbest_any rb ht rd la lc L (fun r => leadC x (ofRS L r 1) r 1) w' R.k.lt ((R.k.cell 2).trans rfl) R.votes (by omega) (fun v hv _ w'' hb2 => k2 v.r 1 w'' (hb.trans (hb2.mono hb.size)))
theorem Both.any {w0 wv : World} {cb rb : Nat} {x : List (Int × Int)} {ht : Int} {L : List Vt} {la : Option Addr} {lc n : Nat} (H : Both w0 wv cb rb x ht L la lc n) (hn : n ≤ 512) (r s : Int) (hr : -9223372036854775808 ≤ r ∧ r ≤ 9223372036854775807) (hs : -9223372036854775808 ≤ s ∧ s ≤ 9223372036854775807) :
    ∃ b : Bool, (∀ w', Below wv.heap.size wv w' → Calls Try.prog 15 #[.pointer (some ⟨cb, 0, none⟩), .int .i64 r, .int .i64 s] w' fun e w'' => e = .returned (.bool b) ∧ Below w'.heap.size w' w'') ∧ (∀ w', Below wv.heap.size wv w' → Calls Try.prog 16 #[.pointer (some ⟨rb, 0, none⟩), .int .i64 r, .int .i64 s] w' fun e w'' => e = .returned (.bool b) ∧ Below w'.heap.size w' w'') := by
  obtain ⟨base, mb, sa, sc, xa, xc, bs, m, rv, rs, T, C, h1, h2, h3⟩ := H.ex
  have hL := H.few
  refine ⟨_, fun w' hb => ?_, fun w' hb => rany_any rb xa xc x ht la lc L r s w' (T.R.below hb) H.gb.l64 H.gb.w (by omega)⟩
  have h := any_any base cb mb sa sc x ht m rv rs r s w' (T.P.below hb) H.gb.l64 H.gb.in_ H.gb.w hr hs
  rw [atP_eq C H.gb.rises] at h
  exact h
theorem Both.ahead {w0 wv : World} {cb rb : Nat} {x : List (Int × Int)} {ht : Int} {L : List Vt} {la : Option Addr} {lc n : Nat} (H : Both w0 wv cb rb x ht L la lc n) (hn : n ≤ 512) (rd : Int) :
    ∃ k : Int, (∀ w', Below wv.heap.size wv w' → Calls Try.prog 17 #[.pointer (some ⟨cb, 0, none⟩), .int .i64 rd] w' fun e w'' => e = .returned (.int .i64 k) ∧ Below w'.heap.size w' w'') ∧ (∀ w', Below wv.heap.size wv w' → Calls Try.prog 18 #[.pointer (some ⟨rb, 0, none⟩), .int .i64 rd] w' fun e w'' => e = .returned (.int .i64 k) ∧ Below w'.heap.size w' w'') := by
  obtain ⟨base, mb, sa, sc, xa, xc, bs, m, rv, rs, T, C, h1, h2, h3⟩ := H.ex
  obtain ⟨ra, rc, rfl, hR⟩ := IntsAt.of_owns (m := rs) T.P.rounds
  obtain ⟨zs, hz⟩ := tns C.rin
  have hzl : zs.length = rs.length := by rw [← hz, List.length_map]
  have hL := H.few
  have h7 := H.gb.few
  have e := ahead_eq C H.gb.rises rd
  refine ⟨_, fun w' hb => ?_, fun w' hb => rahead_any rb rd xa xc x ht la lc L w' (T.R.below hb) H.gb.l64 H.gb.w (by omega)⟩
  have P := T.P.below hb
  have a1 := ahead_any cb rd sa sc x ra rc zs (fun r => rndN m x r 3) w' P.k.lt ((P.k.cell 0).trans rfl) P.seats H.gb.l64 H.gb.w (by rw [hzl]; exact (P.k.cell 3).trans rfl) (by rw [hz]; exact hR.below hb) (by omega) (fun r => by have := rndN_len m x r 3; omega)
    (fun r w'' hb2 => ofRound_any base cb mb sa sc x ht m _ rs r.1 w'' (P.below hb2) H.gb.l64 H.gb.in_ r.2)
  rw [hz, e] at a1
  exact a1

theorem addx_form {base cb mb : Nat} {sa : Option Addr} {sc : Nat} {x : List (Int × Int)} {ht : Int} {m : List Vt} {rv : Value} {rs : List Int} {v : Vt} {P : Int} {w w' : World} {e : Ending} (h : AddX base cb mb sa sc x ht m rv rs v P w e w') : ∃ a b p, e = .returned (.tuple #[.agg (gv a b), .int .i64 p]) := by
  rcases h with ⟨_, rfl, _⟩ | ⟨_, ⟨u, _, _, rfl, _⟩ | ⟨u, _, _, rfl, _⟩ | ⟨_, rfl, _⟩⟩
  · exact ⟨vz, vz, P, rfl⟩
  · exact ⟨vz, vz, 31, rfl⟩
  · exact ⟨u, v, 23, rfl⟩
  · exact ⟨vz, vz, 0, rfl⟩
theorem addx_but {base cb mb : Nat} {sa : Option Addr} {sc : Nat} {x : List (Int × Int)} {ht : Int} {m : List Vt} {rv : Value} {rs : List Int} {v : Vt} {P : Int} {w w' : World} {e : Ending} (h : AddX base cb mb sa sc x ht m rv rs v P w e w') : But (fun k => k = cb ∨ k = mb ∨ rv.ownBlock = some k) w w' := by
  rcases h with ⟨_, _, b⟩ | ⟨_, ⟨u, _, _, _, b⟩ | ⟨u, _, _, _, b⟩ | ⟨_, _, rv', rs', _, B, _⟩⟩
  · exact But.of_below b
  · exact But.of_below b
  · exact But.of_below b
  · exact B
theorem gv_inj {a b a2 b2 : Vt} {p p2 : Int} (h : Ending.returned (.tuple #[.agg (gv a b), .int .i64 p]) = .returned (.tuple #[.agg (gv a2 b2), .int .i64 p2])) : gv a b = gv a2 b2 ∧ p = p2 := by
  simp only [Ending.returned.injEq, Value.tuple.injEq, Array.mk.injEq, List.cons.injEq, Value.agg.injEq, Value.int.injEq, true_and, and_true] at h
  exact h
theorem Two.la_lt {w : World} {base cb mb : Nat} {sa : Option Addr} {sc rb : Nat} {xa : Option Addr} {xc : Nat} {la : Option Addr} {lc bs : Nat} {x : List (Int × Int)} {ht : Int} {m L : List Vt} {rv : Value} {rs : List Int} (T : Two w base cb mb sa sc rb xa xc la lc bs x ht m L rv rs) : ∀ a, la = some a → a.block < w.heap.size := fun a ha => by
  subst ha
  exact (T.O.lt _ rfl).2
theorem Two.addR {w : World} {base cb mb : Nat} {sa : Option Addr} {sc rb : Nat} {xa : Option Addr} {xc : Nat} {la : Option Addr} {lc bs : Nat} {x : List (Int × Int)} {ht : Int} {m L : List Vt} {rv : Value} {rs : List Int} (T : Two w base cb mb sa sc rb xa xc la lc bs x ht m L rv rs) {w' : World} (B : But (fun k => k = cb ∨ k = mb ∨ rv.ownBlock = some k) w w') :
    RcAt w' rb xa xc x ht la lc L ∧ w'.ownsRow bs 34 6 (.slice la L.length lc) L.length (flatV L) := by
  have n1 : ¬ (rb = cb ∨ rb = mb ∨ rv.ownBlock = some rb) := fun q => by
    rcases q with q | q | q
    · exact T.rc q
    · exact T.rm q
    · exact T.rr q
  have n2 : ∀ a, xa = some a → ¬ (a.block = cb ∨ a.block = mb ∨ rv.ownBlock = some a.block) := fun a ha q => by
    rcases q with q | q | q
    · exact (T.xa2 a ha).1 q
    · exact (T.xa2 a ha).2.1 q
    · exact (T.xa2 a ha).2.2 q
  have n3 : ∀ a, la = some a → ¬ (a.block = cb ∨ a.block = mb ∨ rv.ownBlock = some a.block) := fun a ha q => by
    rcases q with q | q | q
    · exact (T.la1 a ha).1 q
    · exact (T.la1 a ha).2.1 q
    · exact (T.la1 a ha).2.2 q
  exact ⟨T.R.but B n1 n2 n3, B.owns T.O (fun g e => by
    cases hq : la with
    | none => rw [hq] at e; cases e
    | some a => rw [hq] at e; have := Option.some.inj e; rw [← this]; exact n3 a hq)⟩
/-- A vote's numbers are ints. -/
def InV (v : Vt) : Prop := (-9223372036854775808 ≤ v.h ∧ v.h ≤ 9223372036854775807) ∧ InN3 v.r v.s v.f ∧ 0 ≤ v.bl ∧ v.bl ≤ 18446744073709551615
/-- What PutVote says. -/
def putE (v : Vt) : Int := W.outE (W.voteFar v.h v.r v.s v.f) (W.voteOdd v.s v.has v.bl v.f)
theorem putE_ok {v : Vt} {ht : Int} {x : List (Int × Int)} (hi : InV v) (h : refP (putE v) ht x v.h v.f = 0) : v.h = ht ∧ hasP x v.f = true ∧ 0 ≤ v.s ∧ v.s ≤ 2 ∧ InN3 v.r v.s v.f := by
  unfold refP at h
  split at h
  · exact absurd h (by assumption)
  · rename_i hE
    split at h
    · exact absurd h (by decide)
    · rename_i hh
      split at h
      · rename_i hp
        have hE : putE v = 0 := by simpa using hE
        unfold putE W.outE at hE
        split at hE
        · exact absurd hE (by decide)
        · rename_i h1
          split at hE
          · exact absurd hE (by decide)
          · rename_i h2
            simp [W.voteFar, W.inNum] at h1
            simp [W.voteOdd] at h2
            exact ⟨by simpa using hh, hp, by omega, by omega, hi.2.1⟩
      · exact absurd h (by decide)
/-- The program has added a vote, the answer not yet. -/
def Mid (w0 w1 : World) (cb rb : Nat) (x : List (Int × Int)) (ht : Int) (n : Nat) (v a b : Vt) (p : Int) : Prop :=
  ∃ L la lc wA wB base mb sa sc xa xc bs m rv rs, Both w0 wA cb rb x ht L la lc n ∧ Two wA base cb mb sa sc rb xa xc la lc bs x ht m L rv rs ∧ Cnt x ht m L rs ∧ rs.length ≤ n ∧ w0.heap.size ≤ base ∧ w0.heap.size ≤ mb ∧
    AddX base cb mb sa sc x ht m rv rs v (refP (putE v) ht x v.h v.f) wA (.returned (.tuple #[.agg (gv a b), .int .i64 p])) wB ∧ Below wB.heap.size wB w1 ∧ Below w0.heap.size w0 w1
theorem Mid.next {w0 w1 w2 : World} {cb rb : Nat} {x : List (Int × Int)} {ht : Int} {n : Nat} {v a b : Vt} {p : Int} (M : Mid w0 w1 cb rb x ht n v a b p) (hb : Below w1.heap.size w1 w2) : Mid w0 w2 cb rb x ht n v a b p := by
  obtain ⟨L, la, lc, wA, wB, base, mb, sa, sc, xa, xc, bs, m, rv, rs, H, T, C, h1, h2, h3, X, b1, b0⟩ := M
  exact ⟨L, la, lc, wA, wB, base, mb, sa, sc, xa, xc, bs, m, rv, rs, H, T, C, h1, h2, h3, X, b1.trans (hb.mono b1.size), b0.trans (hb.mono b0.size)⟩
theorem Mid.bel {w0 w1 : World} {cb rb : Nat} {x : List (Int × Int)} {ht : Int} {n : Nat} {v a b : Vt} {p : Int} (M : Mid w0 w1 cb rb x ht n v a b p) : Below w0.heap.size w0 w1 := by
  obtain ⟨L, la, lc, wA, wB, base, mb, sa, sc, xa, xc, bs, m, rv, rs, H, T, C, h1, h2, h3, X, b1, b0⟩ := M
  exact b0
theorem Mid.rlt {w0 w1 : World} {cb rb : Nat} {x : List (Int × Int)} {ht : Int} {n : Nat} {v a b : Vt} {p : Int} (M : Mid w0 w1 cb rb x ht n v a b p) : rb < w1.heap.size := by
  obtain ⟨L, la, lc, wA, wB, base, mb, sa, sc, xa, xc, bs, m, rv, rs, H, T, C, h1, h2, h3, X, b1, b0⟩ := M
  exact Nat.lt_of_lt_of_le T.R.k.lt (Nat.le_trans (addx_but X).size b1.size)
theorem Both.add1 {w0 wv : World} {cb rb : Nat} {x : List (Int × Int)} {ht : Int} {L : List Vt} {la : Option Addr} {lc n : Nat} (H : Both w0 wv cb rb x ht L la lc n) (hn : n ≤ 512) (v : Vt) (hi : InV v) :
    Calls Try.prog 6 #[.pointer (some ⟨cb, 0, none⟩), .agg #[.int .i64 v.h, .int .i64 v.r, .int .i64 v.s, .bool v.has, .int .u64 v.bl, .int .i64 v.f]] wv fun e w' => ∃ a b p, e = .returned (.tuple #[.agg (gv a b), .int .i64 p]) ∧ Mid w0 w' cb rb x ht n v a b p := by
  obtain ⟨base, mb, sa, sc, xa, xc, bs, m, rv, rs, T, C, h1, h2, h3⟩ := H.ex
  refine (add_any base cb mb sa sc x ht m rv rs v.h v.r v.s v.has v.bl v.f _ (putE v) wv T.P H.gb.l64 hi.2.1 (by omega) C.rsort T.bs1 T.cm T.cr T.mr T.sa1 (fun y hy => W.wputVote_any v.h v.r v.s v.has v.bl v.f y hi.1 hi.2.1.1 hi.2.1.2.1 hi.2.2 hi.2.1.2.2)).mono ?_
  intro e w' X
  obtain ⟨a, b, p, rfl⟩ := addx_form X
  have B := addx_but X
  have hB : Below w0.heap.size wv w' := B.below H.bel.size (fun k hk => by
    rcases hk with rfl | rfl | hk
    · exact H.cb0
    · exact h3
    · exact Nat.le_trans h2 (T.P.rounds.lt _ hk).1)
  exact ⟨a, b, p, rfl, L, la, lc, wv, w', base, mb, sa, sc, xa, xc, bs, m, rv, rs, H, T, C, h1, h2, h3, X, Below.refl _ _, H.bel.trans hB⟩
theorem Mid.add2 {w0 w1 : World} {cb rb : Nat} {x : List (Int × Int)} {ht : Int} {n : Nat} {v a b : Vt} {p : Int} (M : Mid w0 w1 cb rb x ht n v a b p) (hn : n ≤ 512) (hi : InV v) :
    Calls Try.prog 7 #[.pointer (some ⟨rb, 0, none⟩), .agg #[.int .i64 v.h, .int .i64 v.r, .int .i64 v.s, .bool v.has, .int .u64 v.bl, .int .i64 v.f]] w1 fun e w' => e = .returned (.tuple #[.agg (gv a b), .int .i64 p]) ∧ But (fun k => k = rb) w1 w' ∧ ∃ L' la' lc', Both w0 w' cb rb x ht L' la' lc' (n + 1) := by
  obtain ⟨L, la, lc, wA, wB, base, mb, sa, sc, xa, xc, bs, m, rv, rs, H, T, C, h1, h2, h3, X, b1, b0⟩ := M
  have BB := addx_but X
  obtain ⟨R1, O1⟩ := T.addR BB
  have hL := H.few
  have hsz : wA.heap.size ≤ w1.heap.size := Nat.le_trans BB.size b1.size
  refine (radd_any bs rb xa xc x ht la lc L v.h v.r v.s v.has v.bl v.f _ (putE v) w1 (R1.below b1) (owns_keep O1 b1) H.gb.l64 (by omega) (fun a ha => ⟨(T.xa1 a ha).1, Nat.lt_of_lt_of_le (T.xa1 a ha).2 hsz⟩) (fun y hy => W.rputVote_any v.h v.r v.s v.has v.bl v.f y hi.1 hi.2.1.1 hi.2.1.2.1 hi.2.2 hi.2.1.2.2)).mono ?_
  intro e w' Y
  obtain ⟨a2, b2, p2, e1, e2, hh⟩ := add_same C (fun q => putE_ok hi q) X Y
  obtain ⟨g1, g2⟩ := gv_inj e1
  subst e2
  rw [g1, g2]
  refine ⟨rfl, ?_⟩
  rcases hh with ⟨c1, c2⟩ | ⟨m', L', rv', rs', la', lc', C', l1, l2, P', B', hr, R', O', B2⟩
  · have T1 := (T.below c1).below b1
    have T2 := T1.below c2
    exact ⟨But.of_below c2, L, la, lc, ⟨⟨base, mb, sa, sc, xa, xc, bs, m, rv, rs, T2, C, by omega, h2, h3⟩, H.gb, by omega, b0.trans (c2.mono b0.size), H.cb0, H.rb0⟩⟩
  · have T1 := (T.add P' B' hr T.la_lt).below b1
    have T2 := T1.radd R' O' B2
    have hb2 : Below w0.heap.size w1 w' := B2.below b0.size (fun k hk => by subst hk; exact H.rb0)
    exact ⟨B2, L', la', lc', ⟨⟨base, mb, sa, sc, xa, xc, _, m', rv', rs', T2, C', by omega, h2, h3⟩, H.gb, by omega, b0.trans hb2, H.cb0, H.rb0⟩⟩
theorem seats_low {w : World} {la : Option Addr} {l : List (Int × Int)} (h : SeatsAt w la l) (hz : l ≠ []) (a : Addr) (ha : la = some a) : a.block < w.heap.size := by
  rcases h with e | ⟨b, off, e, hl, _⟩
  · exact absurd e hz
  · rw [ha] at e
    injection e with e
    rw [e]
    exact hl
/-- Both counts at the beginning. -/
theorem Both.new {w0 w1 w2 : World} {cb mb : Nat} {sa xa : Option Addr} {sc xc : Nat} {x : List (Int × Int)} {ht : Int} (b1 : Below w0.heap.size w0 w1) (hgd : GoodB x) (hsx : SL w1 xa x xc) (P : CntAt w2 w1.heap.size cb mb sa sc x ht [] (.slice none 0 0) []) (b2 : Below w1.heap.size w1 w2) (hcb : w1.heap.size ≤ cb) (hmb : w1.heap.size ≤ mb) (hcm : cb ≠ mb) (hsa : ∀ a, sa = some a → w1.heap.size ≤ a.block ∧ a.block ≠ cb ∧ a.block ≠ mb) :
    Both w0 (w2.alloc (.cells #[.slice xa x.length xc, .int .i64 ht, .slice none 0 0] 30)) cb w2.heap.size x ht [] none 0 0 := by
  have hx0 : x ≠ [] := fun e => by have := hgd.pos; rw [e] at this; simp at this
  have bA : Below w2.heap.size w2 (w2.alloc (.cells #[.slice xa x.length xc, .int .i64 ht, .slice none 0 0] 30)) := (Below.refl _ _).alloc (Nat.le_refl _) _
  have k1 := P.k.lt
  have k2 := P.map.lt
  have z0 := b1.size
  have z2 := b2.size
  have hz : w2.heap.size ≤ (w2.alloc (.cells #[.slice xa x.length xc, .int .i64 ht, .slice none 0 0] 30)).heap.size := bA.size
  have B2 := b1.trans (b2.mono b1.size)
  have s1 : ∀ a, sa = some a → a.block < w2.heap.size := fun a ha => seats_low P.seats hx0 a ha
  have s2 : ∀ a, xa = some a → a.block < w1.heap.size := fun a ha => seats_low hsx.at_ hx0 a ha
  refine ⟨⟨w1.heap.size, mb, sa, sc, xa, xc, w2.heap.size, [], .slice none 0 0, [], ⟨P.below bA, ⟨Blk.new w2 _ _, (hsx.at_.below b2).below bA, .inl rfl⟩, ⟨rfl, .inl ⟨rfl, rfl⟩⟩, hcm, (fun e => by cases e), (fun e => by cases e), (fun a ha => ⟨(hsa a ha).2.1, (hsa a ha).2.2, (fun e => by cases e), by have := s1 a ha; omega⟩), (fun a ha => by have := s1 a ha; omega), by omega, by omega, (fun e => by cases e), (fun a ha => by have := s2 a ha; omega), (fun a ha => ⟨by have := s2 a ha; omega, by have := s2 a ha; omega, fun e => by cases e⟩), (fun a ha => by cases ha), by omega⟩, cnt_nil x ht, by simp, z0, by omega⟩, hgd, by simp, B2.trans (bA.mono B2.size), by omega, by omega⟩
end Go.Proofs.Ytimcddknoanghaa
