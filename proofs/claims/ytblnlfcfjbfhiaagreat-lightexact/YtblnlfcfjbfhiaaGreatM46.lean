/- LightExact: what the law keeps in memory. -/
import Derived.Test.YtblnlfcfjbfhiaaGreatLFoR
import Derived.Test.YtblnlfcfjbfhiaaGreatLShown
import Derived.Deep.RegionHeld3


namespace Go.Proofs.YtblnlfcfjbfhiaaGreat
open Go.RowKit
set_option linter.unusedVariables false
set_option linter.unusedSimpArgs false

/-- What pick gives. -/
def pickP (c n : Int) : Int := if c < 0 then (-(c + 1)) % n else c % n
theorem pickP_bd (c n : Int) (hn : 1 ≤ n) : 0 ≤ pickP c n ∧ pickP c n < n := by
  unfold pickP
  split
  · exact ⟨Int.emod_nonneg _ (by omega), Int.emod_lt_of_pos _ (by omega)⟩
  · exact ⟨Int.emod_nonneg _ (by omega), Int.emod_lt_of_pos _ (by omega)⟩

theorem pick_fn (c n : Int) (w : World) (hc : InN c) (hn : 1 ≤ n ∧ n ≤ 9223372036854775807) :
    Calls Tryz.prog 4 #[.int .i64 c, .int .i64 n] w fun e w' => e = .returned (.int .i64 (pickP c n)) ∧ w = w' := by
  unfold InN at hc
  by_cases h : c < 0
  · have hq := Int.emod_nonneg (-(c + 1)) (show n ≠ 0 by omega)
    have hq2 := Int.emod_lt_of_pos (-(c + 1)) (show 0 < n by omega)
    have HP : Hid (pickP c n = -(c + 1) % n) := by show _ = _; unfold pickP; rw [if_pos h]
    go_enter Tryz.func4, Tryz.ntmps4
    go_wp2
    go_ret
    have e : -((c + 1).tmod n) = -(c + 1) % n := by rw [← Int.neg_tmod, Int.tmod_eq_emod_of_nonneg (by omega)]
    exact ⟨by rw [HP.out, ← e]; rfl, rfl⟩
  · have hq := Int.emod_nonneg c (show n ≠ 0 by omega)
    have hq2 := Int.emod_lt_of_pos c (show 0 < n by omega)
    have HP : Hid (pickP c n = c % n) := by show _ = _; unfold pickP; rw [if_neg h]
    go_enter Tryz.func4, Tryz.ntmps4
    go_wp2
    go_ret
    exact ⟨by rw [HP.out]; rfl, rfl⟩

/-- The cells of sights. -/
def flatG (l : List Sg) : List Value := l.flatMap fun s => s.arr.toList
theorem flatG_app (l m : List Sg) : flatG (l ++ m) = flatG l ++ flatG m := by simp [flatG, List.flatMap_append]
theorem flatG_len (l : List Sg) : (flatG l).length = l.length * 16 := by
  induction l with
  | nil => rfl
  | cons s r ih =>
    have e : flatG (s :: r) = s.arr.toList ++ flatG r := rfl
    have hl : s.arr.toList.length = 16 := rfl
    rw [e, List.length_append, ih, hl, List.length_cons]
    omega
theorem flatG_get (l : List Sg) : ∀ (i : Nat) (s : Sg), l[i]? = some s → ∀ k x, s.arr[k]? = some x → (flatG l)[i * 16 + k]? = some x := by
  induction l with
  | nil => intro i s h; simp at h
  | cons s0 r ih =>
    intro i s h k x hx
    have e : flatG (s0 :: r) = s0.arr.toList ++ flatG r := rfl
    have hk : k < 16 := (Array.getElem?_eq_some_iff.1 hx).1
    cases i with
    | zero =>
      simp only [List.getElem?_cons_zero, Option.some.injEq] at h
      subst h
      rw [e, Nat.zero_mul, Nat.zero_add, List.getElem?_append_left (by show k < 16; omega), Array.getElem?_toList]
      exact hx
    | succ i =>
      rw [List.getElem?_cons_succ] at h
      rw [e, List.getElem?_append_right (by show 16 ≤ _; omega)]
      have e2 : (i + 1) * 16 + k - s0.arr.toList.length = i * 16 + k := by show (i + 1) * 16 + k - 16 = _; omega
      rw [e2]
      exact ih i s h k x hx
theorem infoSight : (Tryz.prog.info? 34).map (fun i => (i.zero, i.size, i.bytes)) = some (some (.agg #[.int .i64 0, .int .i64 0, .int .u64 0, .int .u64 0, .int .u64 0, .int .u64 0, .int .u64 0, .int .u64 0, .int .i64 0, .int .i64 0, .int .i64 0, .int .i64 0, .bool false, .int .u64 0, .slice none 0 0, .slice none 0 0]), 16, 160) := by kernel_rfl

theorem app_sight (w : World) (base : Nat) (sv : Value) (done : List Sg) (hown : w.ownsRow base 34 16 sv done.length (flatG done)) (x : Sg) (hd : done.length ≤ 200000) (hb : base ≤ w.heap.size) (n : Nat) (hn : done.length = n) :
    ∃ g cap w', (Builtin.append_ #[38, 38] 38 #[sv, .slice (some ⟨w.heap.size, 0, none⟩) 1 1]).run Tryz.prog (w.alloc (.cells x.arr 34)) = .ok (.slice (some ⟨g, 0, none⟩) (n + 1) cap) w' ∧ w'.ownsRow base 34 16 (.slice (some ⟨g, 0, none⟩) (n + 1) cap) (done ++ [x]).length (flatG (done ++ [x])) ∧ (w.alloc (.cells x.arr 34)).grownBy w' sv.ownBlock ∧ (sv.ownBlock = some g ∨ g = w.heap.size + 1) := by
  subst hn
  obtain ⟨i0, hi, hz0, hz1, hz2⟩ := info_parts infoSight
  have hk := Blk.new w x.arr 34
  obtain ⟨g, cap, w', hr, h1, h2, h3, h4⟩ := run_append_lies (P := Tryz.prog) (w.alloc (.cells x.arr 34)) 38 38 base 34 i0 _ 16 160 Tryz.underlying38 hi hz0 hz1 hz2 rfl (by decide) _ _ _ (hown.alloc _) ⟨w.heap.size, 0, none⟩ 1 1 x.arr.toList rfl (fun j u hj => by
    rw [addr_plus, Nat.zero_add, hk.cell j]
    rw [Array.getElem?_toList] at hj
    exact hj) (by intro u hu; simp only [Sg.arr, List.mem_cons, List.not_mem_nil, or_false] at hu; rcases hu with rfl | rfl | rfl | rfl | rfl | rfl | rfl | rfl | rfl | rfl | rfl | rfl | rfl | rfl | rfl | rfl <;> rfl) (by omega) (by unfold maxLen; omega) (by omega) (by simp; omega) _ rfl
  refine ⟨g, cap, w', hr, ?_, h2, h3.imp id (fun e => by rw [e]; simp)⟩
  have e : flatG (done ++ [x]) = flatG done ++ x.arr.toList := by rw [flatG_app]; simp [flatG]
  rw [e, List.length_append]
  exact h1
theorem sights_at {w : World} {base n : Nat} {sv : Value} {l : List Sg} (h : w.ownsRow base 34 16 sv n (flatG l)) (hn : l.length = n) (hok : ∀ s ∈ l, s.Ok w) : ∃ sa sc, sv = .slice sa n sc ∧ SgsAt w sa l := by
  rcases h.2 with ⟨e, h0⟩ | ⟨g, cap, cur, e, hb, hg, hle, hcm, hs, ht⟩
  · subst e
    subst h0
    exact ⟨none, 0, rfl, hok, .inl (List.eq_nil_of_length_eq_zero hn)⟩
  · refine ⟨_, cap, e, hok, .inr ⟨g, 0, rfl, (Array.getElem?_eq_some_iff.1 hg).1, fun i s hs k x hx => ?_⟩⟩
    have hc := h.cells (g := g) (by rw [e]; rfl) (i * 16 + k) x (flatG_get l i s hs k x hx)
    rw [addr_plus, ← Nat.add_assoc] at hc
    exact hc

/-- The arguments: sights, each with its number, in memory. -/
def ShsAt (w : World) (la : Option Addr) (xs : List (Sg × Int)) : Prop :=
  xs = [] ∨ ∃ b off, la = some ⟨b, off, none⟩ ∧ b < w.heap.size ∧ ∀ i s, xs[i]? = some s → ∀ k x, (s.1.arr.push (.int .i64 s.2))[k]? = some x → w.cell? ⟨b, off + i * 17 + k, none⟩ = some x
theorem ShsAt.one {w : World} {la : Option Addr} {xs : List (Sg × Int)} (h : ShsAt w la xs) {i : Nat} (hi : i < xs.length) : ∃ b off, la = some ⟨b, off, none⟩ ∧ b < w.heap.size ∧ ∀ w', Below w.heap.size w w' → ∀ k x, (xs[i].1.arr.push (.int .i64 xs[i].2))[k]? = some x → w'.cell? ⟨b, off + i * 17 + k, none⟩ = some x := by
  rcases h with e | ⟨b, off, e, hl, hc⟩
  · rw [e] at hi; simp at hi
  · exact ⟨b, off, e, hl, fun w' hb k x hx => by rw [hb.cell (p := ⟨b, off + i * 17 + k, none⟩) hl]; exact hc i _ (List.getElem?_eq_getElem hi) k x hx⟩

/-- The law under way, behind its second loop. -/
structure LtAt (w0 : World) (vb : Nat) (v : Vw) (sa : Option Addr) (ls : List Sg) (wv : World) : Prop where
  kv : Blk wv vb v.arr 26
  ok : v.Ok wv
  sg : SgsAt wv sa ls
  few : ls.length ≤ 4096
  below : Below w0.heap.size w0 wv
theorem LtAt.next {w0 wv w2 : World} {vb : Nat} {v : Vw} {sa : Option Addr} {ls : List Sg} (h : LtAt w0 vb v sa ls wv) (hb : Below wv.heap.size wv w2) : LtAt w0 vb v sa ls w2 := ⟨h.kv.below hb h.kv.lt, h.ok.below hb, h.sg.below hb, h.few, h.below.trans (hb.mono h.below.size)⟩
end Go.Proofs.YtblnlfcfjbfhiaaGreat

namespace Go.Proofs.YtblnlfcfjbfhiaaGreat
open Go.RowKit
set_option linter.unusedVariables false
set_option linter.unusedSimpArgs false

set_option maxRecDepth 20000 in
set_option maxHeartbeats 12800000 in
theorem ltE (v : Vw) (sa : Option Addr) (ls : List Sg) (w wv : World) (H : LtAt w w.heap.size v sa ls wv) (c0 c1 c3 c4 c5 c6 c7 c8 c9 c10 c11 c12 c13 c14 c15 c16 c17 c18 c19 c20 c21 c22 c23 c24 c25 c26 c27 c28 c29 c30 c31 c32 c33 c34 c35 c36 c37 c38 c39 c40 c41 c42 c43 c44 c45 c46 c47 c48 c49 c50 c51 c52 c53 c54 c55 c56 c57 c58 c59 c60 c61 c62 c63 c64 c65 c66 c67 c68 c69 c70 c71 c72 c73 c74 c75 c76 c77 c78 c79 c80 c81 c82 c83 c84 c85 c86 c87 c88 c89 c90 c91 c92 c93 c94 c95 c96 c97 c98 c99 c100 c101 c102 c103 c104 c105 c106 c107 c108 c109 c110 c111 c112 c113 c114 c115 c116 c117 c118 c119 c120 c121 c122 c123 c124 c125 c126 c127 c128 c129 c130 c131 c132 c133 c134 c135 c136 c137 c138 c139 c140 c141 c142 c143 c144 c145 c146 c147 c148 c149 c150 c151 c152 c153 c154 c155 c156 c157 c158 c159 c160 c161 c162 c163 c164 c165 c166 c167 c168 c169 c170 c171 c172 c173 c174 c175 c176 c177 c178 c179 c180 c181 c182 c183 c184 c185 c186 c187 : Value) :
    Code.wp Tryz.prog (dropSeq 12 (Tryz.f3.body.getD .skip)) (bodyPost Tryz.prog Tryz.f3 (fun e w' => e = .returned (.bool true) ∧ Below w.heap.size w w')) ⟨#[c0, c1, .pointer (some ⟨w.heap.size, 0, none⟩), c3, c4, c5, c6, c7, c8, c9, c10, c11, c12, c13, c14, c15, c16, c17, c18, c19, c20, c21, c22, c23, c24, c25, c26, c27, c28, c29, c30, c31, c32, c33, c34, c35, c36, c37, c38, c39, c40, c41, c42, c43, c44, c45, c46, c47, c48, c49, c50, c51, c52, c53, c54, c55, c56, c57, c58, c59, c60, c61, c62, c63, c64, c65, c66, c67, c68, c69, c70, c71, c72, c73, c74, c75, c76, c77, c78, c79, c80, c81, c82, c83, c84, c85, c86, c87, c88, c89, c90, c91, c92, c93, c94, c95, c96, c97, c98, c99, c100, c101, c102, c103, c104, c105, c106, c107, c108, c109, c110, c111, c112, c113, c114, c115, c116, c117, c118, c119, c120, c121, c122, c123, c124, c125, c126, c127, c128, c129, c130, c131, c132, c133, c134, c135, c136, c137, c138, c139, c140, c141, c142, c143, c144, c145, c146, c147, c148, c149, c150, c151, c152, c153, c154, c155, c156, c157, c158, c159, c160, c161, c162, c163, c164, c165, c166, c167, c168, c169, c170, c171, c172, c173, c174, c175, c176, c177, c178, c179, c180, c181, c182, c183, c184, c185, c186, c187], []⟩ wv := by
  conv => arg 2; whnf
  conv => arg 4; dsimp only
  obtain ⟨c, wi, ep, h, st, a, cap, l⟩ := v
  have hh := H.ok.ih
  have he := H.ok.iep
  have C2 : ∀ w', Below wv.heap.size wv w' → w'.cell? ⟨w.heap.size, 2, none⟩ = some (.int .i64 ep) := fun w' hb => ((H.kv.below hb H.kv.lt).cell 2).trans rfl
  have C3 : ∀ w', Below wv.heap.size wv w' → w'.cell? ⟨w.heap.size, 3, none⟩ = some (.int .i64 h) := fun w' hb => ((H.kv.below hb H.kv.lt).cell 3).trans rfl
  have zv := H.kv.lt
  have P1 := fun w' => pick_fn h 99 w' hh (by omega)
  have P2 := fun w' => pick_fn ep 9 w' he (by omega)
  have b1 := pickP_bd h 99 (by omega)
  have b2 := pickP_bd ep 9 (by omega)
  generalize pickP h 99 = A at *
  generalize pickP ep 9 = B at *
  have w1 := wrapI (1 + A) (by omega) (by omega)
  have w2 := wrapI (1 + B) (by omega) (by omega)
  have E1 := fun w' => epoch_any (1 + A) (1 + B) w' (by omega) (by omega)
  have E2 := fun w' => repoch_any (1 + A) (1 + B) w' (by omega) (by omega)
  generalize epochP (1 + A) (1 + B) = X at *
  have bw : Below wv.heap.size wv wv := Below.refl _ _
  have HB := show Hid (Below _ _ _) from H.below
  clear H hh he b1 b2
  go_upto_region 31 with fail
  go_region_held3 (fun w' => Below wv.heap.size wv w') (repeat (first | exact bw.drew | exact hNext | assumption | refine Below.drew ?_ | exact bw))
    (first
    | (go_at_call 4
       with_reducible refine (P1 _).mono ?_
       rintro e w3 ⟨rfl, hw3⟩
       have hNext : Below wv.heap.size wv w3 := hw3 ▸ (by assumption))
    | (go_at_call 4
       with_reducible refine (P2 _).mono ?_
       rintro e w3 ⟨rfl, hw3⟩
       have hNext : Below wv.heap.size wv w3 := hw3 ▸ (by assumption))
    | (go_at_call 14
       with_reducible refine (E1 _).mono ?_
       rintro e w3 ⟨rfl, hw3⟩
       have hNext : Below wv.heap.size wv w3 := hw3 ▸ (by assumption))
    | (go_at_call 15
       with_reducible refine (E2 _).mono ?_
       rintro e w3 ⟨rfl, hw3⟩
       have hNext : Below wv.heap.size wv w3 := hw3 ▸ (by assumption)))
  all_goals
    go_wp2
    go_ret
    exact ⟨by simp, HB.out.trans (hNext.mono HB.out.size)⟩

end Go.Proofs.YtblnlfcfjbfhiaaGreat
