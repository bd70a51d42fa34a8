/- The law's shown: whatever it makes of a sight may lie in memory. -/
import Derived.Test.YtblnlfcfjbfhiaaGreatLFoL
import Derived.Deep.RegionHeld3
namespace Go.Proofs.YtblnlfcfjbfhiaaGreat
open Go.RowKit
set_option linter.unusedVariables false
set_option linter.unusedSimpArgs false

theorem Sg.Ok.setCell {w : World} {s : Sg} (h : s.Ok w) {p : Addr} (hs : s.sl ≠ [] → ∀ a, s.sa = some a → p.block ≠ a.block) (hf : s.fr ≠ [] → ∀ a, s.fa = some a → p.block ≠ a.block) (v : Value) : s.Ok (w.setCell p v) := by
  refine ⟨h.ihc, h.ihh, h.ihpa, h.ihtx, h.ihgu, h.ihst, h.ihre, h.ihbe, h.ihpr, h.ikh, h.ikr, h.iks, h.ikbl, ?_, h.fle, h.fcm, h.ffew, h.fin, h.sl_.setCell2 hs v, h.few, h.in_⟩
  by_cases hz : s.fr = []
  · exact .inl hz
  · exact h.fi.setCell (fun a ha => fun e => hf hz a ha e.symm) v

/-- Shown under way: the sight lies at sb, the result's zeros at zb. -/
structure ShAt (w0 : World) (s0 : Sg) (sb zb : Nat) (s : Sg) (wv : World) : Prop where
  ok : s.Ok wv
  k : Blk wv sb s.arr 34
  kz : Blk wv zb #[.int .i64 0, .int .i64 0, .int .u64 0, .int .u64 0, .int .u64 0, .int .u64 0, .int .u64 0, .int .u64 0, .int .i64 0, .int .i64 0, .int .i64 0, .int .i64 0, .bool false, .int .u64 0, .slice none 0 0, .slice none 0 0] 34
  as_ : s.sl ≠ [] → ∀ a, s.sa = some a → a.block ≠ sb ∧ a.block ≠ zb
  af : s.fr ≠ [] → ∀ a, s.fa = some a → a.block ≠ sb ∧ a.block ≠ zb
  below : Below w0.heap.size w0 wv
  lo : w0.heap.size ≤ zb ∧ zb < sb
  sf : s.fr = s0.fr ∧ s.fa = s0.fa
  ss : (s.sl = s0.sl ∧ s.sa = s0.sa) ∨ ∀ a, s.sa = some a → w0.heap.size ≤ a.block
theorem ShAt.next {w0 wv w2 : World} {s0 : Sg} {sb zb : Nat} {s : Sg} (h : ShAt w0 s0 sb zb s wv) (hb : Below wv.heap.size wv w2) : ShAt w0 s0 sb zb s w2 := ⟨h.ok.below hb, h.k.below hb h.k.lt, h.kz.below hb h.kz.lt, h.as_, h.af, h.below.trans (hb.mono h.below.size), h.lo, h.sf, h.ss⟩
theorem ShAt.set {w0 wv : World} {s0 : Sg} {sb zb : Nat} {s : Sg} (h : ShAt w0 s0 sb zb s wv) (k : Nat) (x : Value) (s2 : Sg) (ha : s.arr.setIfInBounds k x = s2.arr) (ho : s.Ok wv → s2.Ok wv) (h1 : s2.sl ≠ [] → ∀ a, s2.sa = some a → a.block ≠ sb ∧ a.block ≠ zb) (h2 : s2.fr = s.fr) (h3 : s2.fa = s.fa) (h4 : (s2.sl = s.sl ∧ s2.sa = s.sa) ∨ ∀ a, s2.sa = some a → w0.heap.size ≤ a.block) : ShAt w0 s0 sb zb s2 (wv.setCell ⟨sb, k, none⟩ x) := by
  have hf : s2.fr ≠ [] → ∀ a, s2.fa = some a → a.block ≠ sb ∧ a.block ≠ zb := by rw [h2, h3]; exact h.af
  refine ⟨(ho h.ok).setCell (fun hz a ha e => (h1 hz a ha).1 e.symm) (fun hz a ha e => (hf hz a ha).1 e.symm) x, ?_, h.kz.setOther _ (by have := h.lo; simp only; omega) x, h1, hf, h.below.setCell (by have := h.lo; simp only; omega) x, h.lo, ⟨h2.trans h.sf.1, h3.trans h.sf.2⟩, ?_⟩
  · rw [← ha]
    exact h.k.set k x
  · rcases h4 with ⟨q1, q2⟩ | q
    · rw [q1, q2]
      exact h.ss
    · exact .inr q
theorem goodB_in {x : List (Int × Int)} (h : GoodB x) : ∀ y ∈ x, InI y := fun y hy => by
  have := h.may y hy
  unfold MayS at this
  unfold InI
  omega

def dropSeq : Nat → Code → Code
  | 0, c => c
  | n + 1, .seq _ b => dropSeq n b
  | _ + 1, c => c

set_option maxRecDepth 8000 in
set_option maxHeartbeats 3200000 in
theorem shE (wd r : Int) (s0 s : Sg) (w wv : World) (hwd : InN wd) (hr : InN r) (c1 c2 c3 c7 c8 c9 c10 c11 c12 c13 c14 c15 c16 c17 c18 c19 c20 c21 c22 c23 c24 c25 c26 c27 c28 c29 c30 c31 c32 c33 c34 c35 c36 c37 c38 c39 c40 c41 c42 c43 c44 c45 c46 c47 c48 c49 : Value) (H0 : ShAt w s0 (w.heap.size + 1 + 1) (w.heap.size + 1) s wv) :
    Code.wp Tryz.prog (dropSeq 7 (Tryz.f5.body.getD .skip)) (bodyPost Tryz.prog Tryz.f5 (fun e w' => ∃ s2 : Sg, e = .returned (.agg s2.arr) ∧ s2.Ok w' ∧ Below w.heap.size w w' ∧ (s2.fr = s0.fr ∧ s2.fa = s0.fa) ∧ ((s2.sl = s0.sl ∧ s2.sa = s0.sa) ∨ ∀ a, s2.sa = some a → w.heap.size ≤ a.block))) ⟨#[.int .i64 wd, c1, c2, c3, .pointer (some ⟨w.heap.size + 1, 0, none⟩), .pointer (some ⟨w.heap.size + 1 + 1, 0, none⟩), .int .i64 r, c7, c8, c9, c10, c11, c12, c13, c14, c15, c16, c17, c18, c19, c20, c21, c22, c23, c24, c25, c26, c27, c28, c29, c30, c31, c32, c33, c34, c35, c36, c37, c38, c39, c40, c41, c42, c43, c44, c45, c46, c47, c48, c49], []⟩ wv := by
  conv => arg 2; whnf
  conv => arg 4; dsimp only
  obtain ⟨hc, hh, hpa, htx, hgu, hst, hre, hbe, hpr, kh, kr, ks, khas, kbl, fa, fcap, fr, sa, scap, sl⟩ := s
  have c0 := (H0.k.cell 0).trans rfl
  have c1 := (H0.k.cell 1).trans rfl
  have c2 := (H0.k.cell 2).trans rfl
  have c3 := (H0.k.cell 3).trans rfl
  have c4 := (H0.k.cell 4).trans rfl
  have c5 := (H0.k.cell 5).trans rfl
  have c6 := (H0.k.cell 6).trans rfl
  have c7 := (H0.k.cell 7).trans rfl
  have c8 := (H0.k.cell 8).trans rfl
  have c9 := (H0.k.cell 9).trans rfl
  have c10 := (H0.k.cell 10).trans rfl
  have c11 := (H0.k.cell 11).trans rfl
  have c12 := (H0.k.cell 12).trans rfl
  have c13 := (H0.k.cell 13).trans rfl
  have c14 := (H0.k.cell 14).trans rfl
  have c15 := (H0.k.cell 15).trans rfl
  have zk := H0.k.lt
  have y0 := (H0.kz.cell 0).trans rfl
  have q0 := H0.kz.frozen 0
  have y1 := (H0.kz.cell 1).trans rfl
  have q1 := H0.kz.frozen 1
  have y2 := (H0.kz.cell 2).trans rfl
  have q2 := H0.kz.frozen 2
  have y3 := (H0.kz.cell 3).trans rfl
  have q3 := H0.kz.frozen 3
  have y4 := (H0.kz.cell 4).trans rfl
  have q4 := H0.kz.frozen 4
  have y5 := (H0.kz.cell 5).trans rfl
  have q5 := H0.kz.frozen 5
  have y6 := (H0.kz.cell 6).trans rfl
  have q6 := H0.kz.frozen 6
  have y7 := (H0.kz.cell 7).trans rfl
  have q7 := H0.kz.frozen 7
  have y8 := (H0.kz.cell 8).trans rfl
  have q8 := H0.kz.frozen 8
  have y9 := (H0.kz.cell 9).trans rfl
  have q9 := H0.kz.frozen 9
  have y10 := (H0.kz.cell 10).trans rfl
  have q10 := H0.kz.frozen 10
  have y11 := (H0.kz.cell 11).trans rfl
  have q11 := H0.kz.frozen 11
  have y12 := (H0.kz.cell 12).trans rfl
  have q12 := H0.kz.frozen 12
  have y13 := (H0.kz.cell 13).trans rfl
  have q13 := H0.kz.frozen 13
  have y14 := (H0.kz.cell 14).trans rfl
  have q14 := H0.kz.frozen 14
  have y15 := (H0.kz.cell 15).trans rfl
  have q15 := H0.kz.frozen 15
  have zz := H0.kz.lt
  go_wp2
  refine bodyPost_ret (v := .agg #[.int .i64 hc, .int .i64 hh, .int .u64 hpa, .int .u64 htx, .int .u64 hgu, .int .u64 hst, .int .u64 hre, .int .u64 hbe, .int .i64 hpr, .int .i64 kh, .int .i64 kr, .int .i64 ks, .bool khas, .int .u64 kbl, .slice fa fr.length fcap, .slice sa sl.length scap]) (by simp [results, Tryz.results5, go_sem, y0, y1, y2, y3, y4, y5, y6, y7, y8, y9, y10, y11, y12, y13, y14, y15]) rfl ?_
  refine ⟨⟨hc, hh, hpa, htx, hgu, hst, hre, hbe, hpr, kh, kr, ks, khas, kbl, fa, fcap, fr, sa, scap, sl⟩, rfl, ?_, ?_, H0.sf, H0.ss⟩
  · iterate 16 refine Sg.Ok.setCell ?_ (fun hz a ha e => (H0.as_ hz a ha).2 e.symm) (fun hz a ha e => (H0.af hz a ha).2 e.symm) _
    exact H0.ok
  · iterate 16 refine Below.setCell ?_ (by show w.heap.size ≤ w.heap.size + 1; omega) _
    exact H0.below

set_option maxRecDepth 8000 in
set_option maxHeartbeats 3200000 in
theorem shD (wd r : Int) (s0 s : Sg) (w wv : World) (hwd : InN wd) (hr : InN r) (c1 c2 c3 c7 c8 c9 c10 c11 c12 c13 c14 c15 c16 c17 c18 c19 c20 c21 c22 c23 c24 c25 c26 c27 c28 c29 c30 c31 c32 c33 c34 c35 c36 c37 c38 c39 c40 c41 c42 c43 c44 c45 c46 c47 c48 c49 : Value) (H0 : ShAt w s0 (w.heap.size + 1 + 1) (w.heap.size + 1) s wv) :
    Code.wp Tryz.prog (dropSeq 6 (Tryz.f5.body.getD .skip)) (bodyPost Tryz.prog Tryz.f5 (fun e w' => ∃ s2 : Sg, e = .returned (.agg s2.arr) ∧ s2.Ok w' ∧ Below w.heap.size w w' ∧ (s2.fr = s0.fr ∧ s2.fa = s0.fa) ∧ ((s2.sl = s0.sl ∧ s2.sa = s0.sa) ∨ ∀ a, s2.sa = some a → w.heap.size ≤ a.block))) ⟨#[.int .i64 wd, c1, c2, c3, .pointer (some ⟨w.heap.size + 1, 0, none⟩), .pointer (some ⟨w.heap.size + 1 + 1, 0, none⟩), .int .i64 r, c7, c8, c9, c10, c11, c12, c13, c14, c15, c16, c17, c18, c19, c20, c21, c22, c23, c24, c25, c26, c27, c28, c29, c30, c31, c32, c33, c34, c35, c36, c37, c38, c39, c40, c41, c42, c43, c44, c45, c46, c47, c48, c49], []⟩ wv := by
  conv => arg 2; whnf
  conv => arg 4; dsimp only
  obtain ⟨hc, hh, hpa, htx, hgu, hst, hre, hbe, hpr, kh, kr, ks, khas, kbl, fa, fcap, fr, sa, scap, sl⟩ := s
  go_upto_if 42 with fail
  go_cut [] (fun wx => ∃ s2 : Sg, ShAt w s0 (w.heap.size + 1 + 1) (w.heap.size + 1) s2 wx)
  case first =>
    cases hq : (bits BinOp.and IntKind.i64 r 8 == 0) with
    | true =>
      have c0 := (H0.k.cell 0).trans rfl
      have c1 := (H0.k.cell 1).trans rfl
      have c2 := (H0.k.cell 2).trans rfl
      have c3 := (H0.k.cell 3).trans rfl
      have c4 := (H0.k.cell 4).trans rfl
      have c5 := (H0.k.cell 5).trans rfl
      have c6 := (H0.k.cell 6).trans rfl
      have c7 := (H0.k.cell 7).trans rfl
      have c8 := (H0.k.cell 8).trans rfl
      have zk := H0.k.lt
      go_wp2_with fail
      refine (Rname wd ⟨hc, hh, hpa, htx, hgu, hst, hre, hbe, hpr, kh, kr, ks, khas, kbl, fa, fcap, fr, sa, scap, sl⟩ _ _ hwd H0.ok).mono ?_
      rintro e w5 ⟨rfl, b5⟩
      have H5 := H0.next b5
      have H6 := H5.set 13 (.int .u64 (Sg.nm ⟨hc, hh, hpa, htx, hgu, hst, hre, hbe, hpr, kh, kr, ks, khas, kbl, fa, fcap, fr, sa, scap, sl⟩ wd)) ⟨hc, hh, hpa, htx, hgu, hst, hre, hbe, hpr, kh, kr, ks, khas, (Sg.nm ⟨hc, hh, hpa, htx, hgu, hst, hre, hbe, hpr, kh, kr, ks, khas, kbl, fa, fcap, fr, sa, scap, sl⟩ wd), fa, fcap, fr, sa, scap, sl⟩ rfl (fun h => ⟨h.ihc, h.ihh, h.ihpa, h.ihtx, h.ihgu, h.ihst, h.ihre, h.ihbe, h.ihpr, h.ikh, h.ikr, h.iks, ofP_bd _ _ _, h.fi, h.fle, h.fcm, h.ffew, h.fin, h.sl_, h.few, h.in_⟩) H5.as_ rfl rfl (.inl ⟨rfl, rfl⟩)
      have g13 := (H5.k.cell 13).trans rfl
      have f13 := H5.k.frozen 13
      have zk5 := H5.k.lt
      generalize Sg.nm ⟨hc, hh, hpa, htx, hgu, hst, hre, hbe, hpr, kh, kr, ks, khas, kbl, fa, fcap, fr, sa, scap, sl⟩ wd = nm at *
      clear c0 c1 c2 c3 c4 c5 c6 c7 c8 zk H5 b5
      go_wp2_with fail
      go_meet
      case rel => exact ⟨_, H6⟩
    | false =>
      go_wp2_with fail
      go_meet
      case rel => exact ⟨_, H0⟩
  case rest =>
    clear H0
    obtain ⟨s2, H0⟩ := hcut
    generalize wc = wk at *
    refine ‹∀ a w, Code.wp Tryz.prog _ _ a w → _› _ _ ?_
    exact shE wd r s0 s2 w wk hwd hr _ _ _ _ _ _ _ _ _ _ _ _ _ _ _ _ _ _ _ _ _ _ _ _ _ _ _ _ _ _ _ _ _ _ _ _ _ _ _ _ _ _ _ _ _ _ H0

set_option maxRecDepth 8000 in
set_option maxHeartbeats 3200000 in
theorem shC (wd r : Int) (s0 s : Sg) (w wv : World) (hwd : InN wd) (hr : InN r) (c1 c2 c3 c7 c8 c9 c10 c11 c12 c13 c14 c15 c16 c17 c18 c19 c20 c21 c22 c23 c24 c25 c26 c27 c28 c29 c30 c31 c32 c33 c34 c35 c36 c37 c38 c39 c40 c41 c42 c43 c44 c45 c46 c47 c48 c49 : Value) (H0 : ShAt w s0 (w.heap.size + 1 + 1) (w.heap.size + 1) s wv) :
    Code.wp Tryz.prog (dropSeq 5 (Tryz.f5.body.getD .skip)) (bodyPost Tryz.prog Tryz.f5 (fun e w' => ∃ s2 : Sg, e = .returned (.agg s2.arr) ∧ s2.Ok w' ∧ Below w.heap.size w w' ∧ (s2.fr = s0.fr ∧ s2.fa = s0.fa) ∧ ((s2.sl = s0.sl ∧ s2.sa = s0.sa) ∨ ∀ a, s2.sa = some a → w.heap.size ≤ a.block))) ⟨#[.int .i64 wd, c1, c2, c3, .pointer (some ⟨w.heap.size + 1, 0, none⟩), .pointer (some ⟨w.heap.size + 1 + 1, 0, none⟩), .int .i64 r, c7, c8, c9, c10, c11, c12, c13, c14, c15, c16, c17, c18, c19, c20, c21, c22, c23, c24, c25, c26, c27, c28, c29, c30, c31, c32, c33, c34, c35, c36, c37, c38, c39, c40, c41, c42, c43, c44, c45, c46, c47, c48, c49], []⟩ wv := by
  conv => arg 2; whnf
  conv => arg 4; dsimp only
  obtain ⟨hc, hh, hpa, htx, hgu, hst, hre, hbe, hpr, kh, kr, ks, khas, kbl, fa, fcap, fr, sa, scap, sl⟩ := s
  go_upto_if 30 with fail
  go_cut [] (fun wx => ∃ s2 : Sg, ShAt w s0 (w.heap.size + 1 + 1) (w.heap.size + 1) s2 wx)
  case first =>
    cases hq : (bits BinOp.and IntKind.i64 r 4 == 0) with
    | true =>
      have c1 := (H0.k.cell 1).trans rfl
      have H1 := H0.set 9 (.int .i64 hh) ⟨hc, hh, hpa, htx, hgu, hst, hre, hbe, hpr, hh, kr, ks, khas, kbl, fa, fcap, fr, sa, scap, sl⟩ rfl (fun h => ⟨h.ihc, h.ihh, h.ihpa, h.ihtx, h.ihgu, h.ihst, h.ihre, h.ihbe, h.ihpr, h.ihh, h.ikr, h.iks, h.ikbl, h.fi, h.fle, h.fcm, h.ffew, h.fin, h.sl_, h.few, h.in_⟩) H0.as_ rfl rfl (.inl ⟨rfl, rfl⟩)
      have H2 := H1.set 11 (.int .i64 2) ⟨hc, hh, hpa, htx, hgu, hst, hre, hbe, hpr, hh, kr, 2, khas, kbl, fa, fcap, fr, sa, scap, sl⟩ rfl (fun h => ⟨h.ihc, h.ihh, h.ihpa, h.ihtx, h.ihgu, h.ihst, h.ihre, h.ihbe, h.ihpr, h.ikh, h.ikr, (show InN 2 by unfold InN; omega), h.ikbl, h.fi, h.fle, h.fcm, h.ffew, h.fin, h.sl_, h.few, h.in_⟩) H0.as_ rfl rfl (.inl ⟨rfl, rfl⟩)
      have H3 := H2.set 12 (.bool true) ⟨hc, hh, hpa, htx, hgu, hst, hre, hbe, hpr, hh, kr, 2, true, kbl, fa, fcap, fr, sa, scap, sl⟩ rfl (fun h => ⟨h.ihc, h.ihh, h.ihpa, h.ihtx, h.ihgu, h.ihst, h.ihre, h.ihbe, h.ihpr, h.ikh, h.ikr, h.iks, h.ikbl, h.fi, h.fle, h.fcm, h.ffew, h.fin, h.sl_, h.few, h.in_⟩) H0.as_ rfl rfl (.inl ⟨rfl, rfl⟩)
      have g9 := (H0.k.cell 9).trans rfl
      have f9 := H0.k.frozen 9
      have g11 := (H0.k.cell 11).trans rfl
      have f11 := H0.k.frozen 11
      have g12 := (H0.k.cell 12).trans rfl
      have f12 := H0.k.frozen 12
      have zk := H0.k.lt
      clear H1 H2
      go_wp2_with fail
      go_meet
      case rel => exact ⟨_, H3⟩
    | false =>
      go_wp2_with fail
      go_meet
      case rel => exact ⟨_, H0⟩
  case rest =>
    clear H0
    obtain ⟨s2, H0⟩ := hcut
    generalize wc = wk at *
    refine ‹∀ a w, Code.wp Tryz.prog _ _ a w → _› _ _ ?_
    exact shD wd r s0 s2 w wk hwd hr _ _ _ _ _ _ _ _ _ _ _ _ _ _ _ _ _ _ _ _ _ _ _ _ _ _ _ _ _ _ _ _ _ _ _ _ _ _ _ _ _ _ _ _ _ _ H0

set_option maxRecDepth 8000 in
set_option maxHeartbeats 3200000 in
theorem shB (wd r : Int) (s0 s : Sg) (w wv : World) (hwd : InN wd) (hr : InN r) (c1 c2 c3 c7 c8 c9 c10 c11 c12 c13 c14 c15 c16 c17 c18 c19 c20 c21 c22 c23 c24 c25 c26 c27 c28 c29 c30 c31 c32 c33 c34 c35 c36 c37 c38 c39 c40 c41 c42 c43 c44 c45 c46 c47 c48 c49 : Value) (H0 : ShAt w s0 (w.heap.size + 1 + 1) (w.heap.size + 1) s wv) :
    Code.wp Tryz.prog (dropSeq 4 (Tryz.f5.body.getD .skip)) (bodyPost Tryz.prog Tryz.f5 (fun e w' => ∃ s2 : Sg, e = .returned (.agg s2.arr) ∧ s2.Ok w' ∧ Below w.heap.size w w' ∧ (s2.fr = s0.fr ∧ s2.fa = s0.fa) ∧ ((s2.sl = s0.sl ∧ s2.sa = s0.sa) ∨ ∀ a, s2.sa = some a → w.heap.size ≤ a.block))) ⟨#[.int .i64 wd, c1, c2, c3, .pointer (some ⟨w.heap.size + 1, 0, none⟩), .pointer (some ⟨w.heap.size + 1 + 1, 0, none⟩), .int .i64 r, c7, c8, c9, c10, c11, c12, c13, c14, c15, c16, c17, c18, c19, c20, c21, c22, c23, c24, c25, c26, c27, c28, c29, c30, c31, c32, c33, c34, c35, c36, c37, c38, c39, c40, c41, c42, c43, c44, c45, c46, c47, c48, c49], []⟩ wv := by
  conv => arg 2; whnf
  conv => arg 4; dsimp only
  obtain ⟨hc, hh, hpa, htx, hgu, hst, hre, hbe, hpr, kh, kr, ks, khas, kbl, fa, fcap, fr, sa, scap, sl⟩ := s
  go_upto_if 21 with fail
  go_cut [] (fun wx => ∃ s2 : Sg, ShAt w s0 (w.heap.size + 1 + 1) (w.heap.size + 1) s2 wx)
  case first =>
    cases hq : (bits BinOp.and IntKind.i64 r 2 == 0) with
    | true =>
      have c15 := (H0.k.cell 15).trans rfl
      have zk := H0.k.lt
      go_wp2_with fail
      refine (Rbd wd sa scap sl _ hwd H0.ok.sl_ H0.ok.few H0.ok.in_).mono ?_
      rintro e w5 ⟨rfl, b5⟩
      have H5 := H0.next b5
      have H6 := H5.set 7 (.int .u64 (bdP wd sl)) ⟨hc, hh, hpa, htx, hgu, hst, hre, bdP wd sl, hpr, kh, kr, ks, khas, kbl, fa, fcap, fr, sa, scap, sl⟩ rfl (fun h => ⟨h.ihc, h.ihh, h.ihpa, h.ihtx, h.ihgu, h.ihst, h.ihre, ofP_bd _ _ _, h.ihpr, h.ikh, h.ikr, h.iks, h.ikbl, h.fi, h.fle, h.fcm, h.ffew, h.fin, h.sl_, h.few, h.in_⟩) H5.as_ rfl rfl (.inl ⟨rfl, rfl⟩)
      have g15 := (H5.k.cell 7).trans rfl
      have f15 := H5.k.frozen 7
      have zk5 := H5.k.lt
      generalize bdP wd sl = bd at *
      clear c15 zk H5 b5
      go_wp2_with fail
      go_meet
      case rel => exact ⟨_, H6⟩
    | false =>
      go_wp2_with fail
      go_meet
      case rel => exact ⟨_, H0⟩
  case rest =>
    clear H0
    obtain ⟨s2, H0⟩ := hcut
    generalize wc = wk at *
    refine ‹∀ a w, Code.wp Tryz.prog _ _ a w → _› _ _ ?_
    exact shC wd r s0 s2 w wk hwd hr _ _ _ _ _ _ _ _ _ _ _ _ _ _ _ _ _ _ _ _ _ _ _ _ _ _ _ _ _ _ _ _ _ _ _ _ _ _ _ _ _ _ _ _ _ _ H0

set_option maxRecDepth 8000 in
set_option maxHeartbeats 3200000 in
theorem shA (wd r : Int) (s0 s : Sg) (w wv : World) (hwd : InN wd) (hr : InN r) (c1 c2 c3 c7 c8 c9 c10 c11 c12 c13 c14 c15 c16 c17 c18 c19 c20 c21 c22 c23 c24 c25 c26 c27 c28 c29 c30 c31 c32 c33 c34 c35 c36 c37 c38 c39 c40 c41 c42 c43 c44 c45 c46 c47 c48 c49 : Value) (H0 : ShAt w s0 (w.heap.size + 1 + 1) (w.heap.size + 1) s wv) :
    Code.wp Tryz.prog (dropSeq 3 (Tryz.f5.body.getD .skip)) (bodyPost Tryz.prog Tryz.f5 (fun e w' => ∃ s2 : Sg, e = .returned (.agg s2.arr) ∧ s2.Ok w' ∧ Below w.heap.size w w' ∧ (s2.fr = s0.fr ∧ s2.fa = s0.fa) ∧ ((s2.sl = s0.sl ∧ s2.sa = s0.sa) ∨ ∀ a, s2.sa = some a → w.heap.size ≤ a.block))) ⟨#[.int .i64 wd, c1, c2, c3, .pointer (some ⟨w.heap.size + 1, 0, none⟩), .pointer (some ⟨w.heap.size + 1 + 1, 0, none⟩), .int .i64 r, c7, c8, c9, c10, c11, c12, c13, c14, c15, c16, c17, c18, c19, c20, c21, c22, c23, c24, c25, c26, c27, c28, c29, c30, c31, c32, c33, c34, c35, c36, c37, c38, c39, c40, c41, c42, c43, c44, c45, c46, c47, c48, c49], []⟩ wv := by
  conv => arg 2; whnf
  conv => arg 4; dsimp only
  obtain ⟨hc, hh, hpa, htx, hgu, hst, hre, hbe, hpr, kh, kr, ks, khas, kbl, fa, fcap, fr, sa, scap, sl⟩ := s
  go_upto_if 14 with fail
  go_cut [] (fun wx => ∃ s2 : Sg, ShAt w s0 (w.heap.size + 1 + 1) (w.heap.size + 1) s2 wx)
  case first =>
    cases hq : (bits BinOp.and IntKind.i64 r 1 == 0) with
    | true =>
      have c15 := (H0.k.cell 15).trans rfl
      have zk := H0.k.lt
      go_wp2_with fail
      refine (seated_any sa scap sl _ (by have := H0.ok.few; unfold maxLen; simp only at this; omega) H0.ok.in_ H0.ok.sl_.at_).mono ?_
      rintro e w5 ⟨⟨v, x, rfl, hgd, hox⟩, b5⟩
      obtain ⟨xa, xc, rfl, hsx, hfx⟩ := SL.of_owns hox
      have zz := H0.kz.lt
      have H5 := H0.next b5
      have hx7 := hgd.few
      have hxi := goodB_in hgd
      have H6 := H5.set 15 (.slice xa x.length xc) ⟨hc, hh, hpa, htx, hgu, hst, hre, hbe, hpr, kh, kr, ks, khas, kbl, fa, fcap, fr, xa, xc, x⟩ rfl (fun h => ⟨h.ihc, h.ihh, h.ihpa, h.ihtx, h.ihgu, h.ihst, h.ihre, h.ihbe, h.ihpr, h.ikh, h.ikr, h.iks, h.ikbl, h.fi, h.fle, h.fcm, h.ffew, h.fin, hsx, (show x.length ≤ 4096 by omega), hxi⟩) (fun _ a ha => by have := hfx a ha; omega) rfl rfl (.inr fun a ha => by have := hfx a ha; have := H0.lo; have := H0.kz.lt; omega)
      have g15 := (H5.k.cell 15).trans rfl
      have f15 := H5.k.frozen 15
      have zk5 := H5.k.lt
      clear c15 zk hgd hox hsx hfx hxi H5 b5 hx7
      go_wp2_with fail
      go_meet
      case rel => exact ⟨_, H6⟩
    | false =>
      go_wp2_with fail
      go_meet
      case rel => exact ⟨_, H0⟩
  case rest =>
    clear H0
    obtain ⟨s2, H0⟩ := hcut
    generalize wc = wk at *
    refine ‹∀ a w, Code.wp Tryz.prog _ _ a w → _› _ _ ?_
    exact shB wd r s0 s2 w wk hwd hr _ _ _ _ _ _ _ _ _ _ _ _ _ _ _ _ _ _ _ _ _ _ _ _ _ _ _ _ _ _ _ _ _ _ _ _ _ _ _ _ _ _ _ _ _ _ H0

set_option maxRecDepth 8000 in
set_option maxHeartbeats 6400000 in
theorem shown_any (wd t : Int) (s : Sg) (w : World) (hs : s.Ok w) (hwd : InN wd) (ht : InN t) :
    Calls Tryz.prog 5 #[.int .i64 wd, .agg (s.arr.push (.int .i64 t))] w fun e w' => ∃ s2 : Sg, e = .returned (.agg s2.arr) ∧ s2.Ok w' ∧ Below w.heap.size w w' ∧ (s2.fr = s.fr ∧ s2.fa = s.fa) ∧ ((s2.sl = s.sl ∧ s2.sa = s.sa) ∨ ∀ a, s2.sa = some a → w.heap.size ≤ a.block) := by
  have H0 : ShAt w s (w.heap.size + 1 + 1) (w.heap.size + 1) s (((w.alloc (.cells (s.arr.push (.int .i64 t)) 36)).alloc (.cells #[.int .i64 0, .int .i64 0, .int .u64 0, .int .u64 0, .int .u64 0, .int .u64 0, .int .u64 0, .int .u64 0, .int .i64 0, .int .i64 0, .int .i64 0, .int .i64 0, .bool false, .int .u64 0, .slice none 0 0, .slice none 0 0] 34)).alloc (.cells s.arr 34)) := by
    have bA : Below w.heap.size w (((w.alloc (.cells (s.arr.push (.int .i64 t)) 36)).alloc (.cells #[.int .i64 0, .int .i64 0, .int .u64 0, .int .u64 0, .int .u64 0, .int .u64 0, .int .u64 0, .int .u64 0, .int .i64 0, .int .i64 0, .int .i64 0, .int .i64 0, .bool false, .int .u64 0, .slice none 0 0, .slice none 0 0] 34)).alloc (.cells s.arr 34)) := (((Below.refl _ _).alloc (Nat.le_refl _) _).alloc (by simp) _).alloc (by simp; omega) _
    have k1 := Blk.new ((w.alloc (.cells (s.arr.push (.int .i64 t)) 36)).alloc (.cells #[.int .i64 0, .int .i64 0, .int .u64 0, .int .u64 0, .int .u64 0, .int .u64 0, .int .u64 0, .int .u64 0, .int .i64 0, .int .i64 0, .int .i64 0, .int .i64 0, .bool false, .int .u64 0, .slice none 0 0, .slice none 0 0] 34)) s.arr 34
    have k2 := (Blk.new (w.alloc (.cells (s.arr.push (.int .i64 t)) 36)) #[.int .i64 0, .int .i64 0, .int .u64 0, .int .u64 0, .int .u64 0, .int .u64 0, .int .u64 0, .int .u64 0, .int .i64 0, .int .i64 0, .int .i64 0, .int .i64 0, .bool false, .int .u64 0, .slice none 0 0, .slice none 0 0] 34).alloc (.cells s.arr 34)
    simp only [World.size_alloc] at k1 k2
    refine ⟨hs.below bA, k1, k2, ?_, ?_, bA, by omega, ⟨rfl, rfl⟩, .inl ⟨rfl, rfl⟩⟩
    · intro hz a ha
      rcases hs.sl_.at_ with e | ⟨b, off, e, hl, _⟩
      · exact absurd e hz
      · rw [ha] at e
        injection e with e
        subst e
        exact ⟨by simp only; omega, by simp only; omega⟩
    · intro hz a ha
      rcases hs.fi with e | ⟨b, off, e, hl, _⟩
      · exact absurd e hz
      · rw [ha] at e
        injection e with e
        subst e
        exact ⟨by simp only; omega, by simp only; omega⟩
  have kX : Blk (((w.alloc (.cells (s.arr.push (.int .i64 t)) 36)).alloc (.cells #[.int .i64 0, .int .i64 0, .int .u64 0, .int .u64 0, .int .u64 0, .int .u64 0, .int .u64 0, .int .u64 0, .int .i64 0, .int .i64 0, .int .i64 0, .int .i64 0, .bool false, .int .u64 0, .slice none 0 0, .slice none 0 0] 34)).alloc (.cells s.arr 34)) w.heap.size (s.arr.push (.int .i64 t)) 36 := ((Blk.new w _ _).alloc _).alloc _
  obtain ⟨hc, hh, hpa, htx, hgu, hst, hre, hbe, hpr, kh, kr, ks, khas, kbl, fa, fcap, fr, sa, scap, sl⟩ := s
  simp only [Sg.arr, List.push_toArray, List.cons_append, List.nil_append] at H0 kX ⊢
  clear hs
  go_enter Tryz.func5, Tryz.ntmps5
  go_upto_region 2 with fail
  have c16 := (kX.cell 16).trans rfl
  have zx := kX.lt
  clear kX
  generalize (((w.alloc (.cells #[.int .i64 hc, .int .i64 hh, .int .u64 hpa, .int .u64 htx, .int .u64 hgu, .int .u64 hst, .int .u64 hre, .int .u64 hbe, .int .i64 hpr, .int .i64 kh, .int .i64 kr, .int .i64 ks, .bool khas, .int .u64 kbl, .slice fa fr.length fcap, .slice sa sl.length scap, .int .i64 t] 36)).alloc (.cells #[.int .i64 0, .int .i64 0, .int .u64 0, .int .u64 0, .int .u64 0, .int .u64 0, .int .u64 0, .int .u64 0, .int .i64 0, .int .i64 0, .int .i64 0, .int .i64 0, .bool false, .int .u64 0, .slice none 0 0, .slice none 0 0] 34)).alloc (.cells #[.int .i64 hc, .int .i64 hh, .int .u64 hpa, .int .u64 htx, .int .u64 hgu, .int .u64 hst, .int .u64 hre, .int .u64 hbe, .int .i64 hpr, .int .i64 kh, .int .i64 kr, .int .i64 ks, .bool khas, .int .u64 kbl, .slice fa fr.length fcap, .slice sa sl.length scap] 34)) = w3 at *
  go_cut [6] (fun rv wx => ∃ r, rv = .int .i64 r ∧ InN r ∧ w3 = wx)
  case first =>
    go_wp2_with fail
    refine (pick_any t 64 w3 ht (by omega)).mono ?_
    rintro e w4 ⟨⟨r, rfl, hr0, hr1⟩, rfl⟩
    go_wp2_with fail
    go_meet
    case rel => exact ⟨r, rfl, by unfold InN; omega, rfl⟩
  case rest =>
    obtain ⟨r, rfl, hr, rfl⟩ := hcut
    refine ‹∀ a w, Code.wp Tryz.prog _ _ a w → _› _ _ ?_
    exact shA wd r _ _ w w3 hwd hr _ _ _ _ _ _ _ _ _ _ _ _ _ _ _ _ _ _ _ _ _ _ _ _ _ _ _ _ _ _ _ _ _ _ _ _ _ _ _ _ _ _ _ _ _ _ H0
end Go.Proofs.YtblnlfcfjbfhiaaGreat
