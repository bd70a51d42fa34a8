/- LightExact: the third loop. -/
import Derived.Test.YtblnlfcfjbfhiaaGreatM46
import Derived.Deep.RegionHeld3
import Derived.Deep.CutBlock
namespace Go.Proofs.YtblnlfcfjbfhiaaGreat
open Go.RowKit
set_option linter.unusedVariables false
set_option linter.unusedSimpArgs false

/-- What Accept gives, as a view. -/
noncomputable def resV (v : Vw) (s : Sg) : Vw := if accE v s = 0 then ⟨v.c, v.wi, v.ep, s.hh, s.hst, none, 0, s.sl⟩ else ⟨0, 0, 0, 0, 0, none, 0, []⟩
theorem resV_len {v : Vw} {s : Sg} {u : Vw} (h : s.sl.length ≤ 4096) (e : u.norm = resV v s) : u.l.length ≤ 1000000 := by
  have e2 : u.norm.l = (resV v s).l := congrArg Vw.l e
  show u.norm.l.length ≤ _
  rw [e2]
  unfold resV
  split
  · show s.sl.length ≤ _; omega
  · simp
theorem acc_res {v : Vw} {s : Sg} {w : World} {e : Ending} {w' : World} (h : Accepted v.c v.wi v.ep s.hh s.hst s.sl (accE v s) w e w') : ∃ vx : Vw, e = .returned (.tuple #[.agg vx.arr, .int .i64 (accE v s)]) ∧ vx.norm = resV v s ∧ SL w' vx.a vx.l vx.cap ∧ (∀ a, vx.a = some a → w.heap.size ≤ a.block) ∧ Below w.heap.size w w' := by
  obtain ⟨hb, ⟨h0, rfl⟩ | ⟨h0, lb, cb, rfl, h1, h2⟩⟩ := h
  · exact ⟨⟨0, 0, 0, 0, 0, none, 0, []⟩, rfl, by unfold resV; rw [if_neg h0]; rfl, ⟨.inl rfl, Nat.le_refl _, Nat.zero_le _⟩, (fun a h => by cases h), hb⟩
  · exact ⟨⟨v.c, v.wi, v.ep, s.hh, s.hst, lb, cb, s.sl⟩, by rw [h0], by unfold resV; rw [if_pos h0]; rfl, h1, h2, hb⟩
/-- What lies in a variable behind Accept. -/
def AccIn (wr : World) (V : Vw) (xv : Value) (wx : World) : Prop := ∃ (b9 : Nat) (vx : Vw), xv = .pointer (some ⟨b9, 0, none⟩) ∧ wr.heap.size ≤ b9 ∧ Blk wx b9 vx.arr 26 ∧ vx.norm = V ∧ SL wx vx.a vx.l vx.cap ∧ Below wr.heap.size wr wx
theorem AccIn.late {wr w3 : World} {V vx : Vw} (hn : vx.norm = V) (h : SL w3 vx.a vx.l vx.cap) (hb : Below wr.heap.size wr w3) : AccIn wr V (.pointer (some ⟨w3.heap.size, 0, none⟩)) (w3.alloc (.cells vx.arr 26)) :=
  ⟨_, vx, rfl, hb.size, Blk.new w3 _ _, hn, h.below ((Below.refl _ _).alloc (Nat.le_refl _) _), hb.alloc hb.size _⟩
theorem AccIn.early {wr w3 : World} {V vx : Vw} (hn : vx.norm = V) (h : SL w3 vx.a vx.l vx.cap) (hf : ∀ a, vx.a = some a → wr.heap.size + 1 ≤ a.block) (hb : Below wr.heap.size wr w3) (hk : Blk w3 wr.heap.size #[.int .i64 0, .int .i64 0, .int .i64 0, .int .i64 0, .int .u64 0, .slice none 0 0] 26) : AccIn wr V (.pointer (some ⟨wr.heap.size, 0, none⟩)) ((((((w3.setCell ⟨wr.heap.size, 0, none⟩ (.int .i64 vx.c)).setCell ⟨wr.heap.size, 1, none⟩ (.int .i64 vx.wi)).setCell ⟨wr.heap.size, 2, none⟩ (.int .i64 vx.ep)).setCell ⟨wr.heap.size, 3, none⟩ (.int .i64 vx.h)).setCell ⟨wr.heap.size, 4, none⟩ (.int .u64 vx.st)).setCell ⟨wr.heap.size, 5, none⟩ (.slice vx.a vx.l.length vx.cap)) :=
  ⟨_, vx, rfl, Nat.le_refl _, ((((((hk.set 0 (.int .i64 vx.c)).set 1 (.int .i64 vx.wi)).set 2 (.int .i64 vx.ep)).set 3 (.int .i64 vx.h)).set 4 (.int .u64 vx.st)).set 5 (.slice vx.a vx.l.length vx.cap)), hn, (SL.setCell (SL.setCell (SL.setCell (SL.setCell (SL.setCell (SL.setCell h (a := ⟨wr.heap.size, 0, none⟩) (fun x hx => by have := hf x hx; simp only; omega) (.int .i64 vx.c)) (a := ⟨wr.heap.size, 1, none⟩) (fun x hx => by have := hf x hx; simp only; omega) (.int .i64 vx.wi)) (a := ⟨wr.heap.size, 2, none⟩) (fun x hx => by have := hf x hx; simp only; omega) (.int .i64 vx.ep)) (a := ⟨wr.heap.size, 3, none⟩) (fun x hx => by have := hf x hx; simp only; omega) (.int .i64 vx.h)) (a := ⟨wr.heap.size, 4, none⟩) (fun x hx => by have := hf x hx; simp only; omega) (.int .u64 vx.st)) (a := ⟨wr.heap.size, 5, none⟩) (fun x hx => by have := hf x hx; simp only; omega) (.slice vx.a vx.l.length vx.cap)), ((((((hb.setCell (p := ⟨wr.heap.size, 0, none⟩) (Nat.le_refl _) (.int .i64 vx.c)).setCell (p := ⟨wr.heap.size, 1, none⟩) (Nat.le_refl _) (.int .i64 vx.wi)).setCell (p := ⟨wr.heap.size, 2, none⟩) (Nat.le_refl _) (.int .i64 vx.ep)).setCell (p := ⟨wr.heap.size, 3, none⟩) (Nat.le_refl _) (.int .i64 vx.h)).setCell (p := ⟨wr.heap.size, 4, none⟩) (Nat.le_refl _) (.int .u64 vx.st)).setCell (p := ⟨wr.heap.size, 5, none⟩) (Nat.le_refl _) (.slice vx.a vx.l.length vx.cap))⟩
theorem norm_eq {v u : Vw} (h : v.norm = u.norm) : u = ⟨v.c, v.wi, v.ep, v.h, v.st, u.a, u.cap, v.l⟩ := by
  obtain ⟨c, wi, ep, h1, st, a, cap, l⟩ := v
  obtain ⟨c2, wi2, ep2, h2, st2, a2, cap2, l2⟩ := u
  simp only [Vw.norm, Vw.mk.injEq] at h
  obtain ⟨rfl, rfl, rfl, rfl, rfl, _, _, rfl⟩ := h
  rfl

set_option maxRecDepth 20000 in
set_option maxHeartbeats 12800000 in
theorem ltD (wd : Int) (hwd : InN wd) (v : Vw) (sa : Option Addr) (sc : Nat) (ls : List Sg) (w wv : World) (H : LtAt w w.heap.size v sa ls wv) (ea : Option Addr) (ec : Nat) (fa_ : Option Addr) (fc : Nat) (EL : List Int) (HL : Hid (EL.length = ls.length)) (IE : IntsAt wv ea EL) (IF : IntsAt wv fa_ EL) (c0 c1 c3 c4 c5 c6 c9 c10 c12 c14 c15 c16 c17 c18 c19 c20 c21 c22 c23 c24 c25 c26 c27 c28 c29 c30 c31 c32 c33 c34 c35 c36 c37 c38 c39 c40 c41 c42 c43 c44 c45 c46 c47 c48 c49 c50 c51 c52 c53 c54 c55 c56 c57 c58 c59 c60 c61 c62 c63 c64 c65 c66 c67 c68 c69 c70 c71 c72 c73 c74 c75 c76 c77 c78 c79 c80 c81 c82 c83 c84 c85 c86 c87 c88 c89 c90 c91 c92 c93 c94 c95 c96 c97 c98 c99 c100 c101 c102 c103 c104 c105 c106 c107 c108 c109 c110 c111 c112 c113 c114 c115 c116 c117 c118 c119 c120 c121 c122 c123 c124 c125 c126 c127 c128 c129 c130 c131 c132 c133 c134 c135 c136 c137 c138 c139 c140 c141 c142 c143 c144 c145 c146 c147 c148 c149 c150 c151 c152 c153 c154 c155 c156 c157 c158 c159 c160 c161 c162 c163 c164 c165 c166 c167 c168 c169 c170 c171 c172 c173 c174 c175 c176 c177 c178 c179 c180 c181 c182 c183 c184 c185 c186 c187 : Value) :
    Code.wp Tryz.prog (dropSeq 11 (Tryz.f3.body.getD .skip)) (bodyPost Tryz.prog Tryz.f3 (fun e w' => e = .returned (.bool true) ∧ Below w.heap.size w w')) ⟨#[c0, c1, .pointer (some ⟨w.heap.size, 0, none⟩), c3, c4, c5, c6, .int .i64 wd, .slice sa ls.length sc, c9, c10, .slice ea ls.length ec, c12, .slice fa_ ls.length fc, c14, c15, c16, c17, c18, c19, c20, c21, c22, c23, c24, c25, c26, c27, c28, c29, c30, c31, c32, c33, c34, c35, c36, c37, c38, c39, c40, c41, c42, c43, c44, c45, c46, c47, c48, c49, c50, c51, c52, c53, c54, c55, c56, c57, c58, c59, c60, c61, c62, c63, c64, c65, c66, c67, c68, c69, c70, c71, c72, c73, c74, c75, c76, c77, c78, c79, c80, c81, c82, c83, c84, c85, c86, c87, c88, c89, c90, c91, c92, c93, c94, c95, c96, c97, c98, c99, c100, c101, c102, c103, c104, c105, c106, c107, c108, c109, c110, c111, c112, c113, c114, c115, c116, c117, c118, c119, c120, c121, c122, c123, c124, c125, c126, c127, c128, c129, c130, c131, c132, c133, c134, c135, c136, c137, c138, c139, c140, c141, c142, c143, c144, c145, c146, c147, c148, c149, c150, c151, c152, c153, c154, c155, c156, c157, c158, c159, c160, c161, c162, c163, c164, c165, c166, c167, c168, c169, c170, c171, c172, c173, c174, c175, c176, c177, c178, c179, c180, c181, c182, c183, c184, c185, c186, c187], []⟩ wv := by
  conv => arg 2; whnf
  conv => arg 4; dsimp only
  obtain ⟨c, wi, ep, h, st, a, cap, l⟩ := v
  go_upto_block 4 with fail
  go_cut [] (fun wx => Below wv.heap.size wv wx)
  case rest =>
    have G := H.next hcut
    clear H IE IF
    generalize wc = wx at *
    refine ‹∀ a w, Code.wp Tryz.prog _ _ a w → _› _ _ ?_
    exact ltE ⟨c, wi, ep, h, st, a, cap, l⟩ _ ls w wx G _ _ _ _ _ _ _ _ _ _ _ _ _ _ _ _ _ _ _ _ _ _ _ _ _ _ _ _ _ _ _ _ _ _ _ _ _ _ _ _ _ _ _ _ _ _ _ _ _ _ _ _ _ _ _ _ _ _ _ _ _ _ _ _ _ _ _ _ _ _ _ _ _ _ _ _ _ _ _ _ _ _ _ _ _ _ _ _ _ _ _ _ _ _ _ _ _ _ _ _ _ _ _ _ _ _ _ _ _ _ _ _ _ _ _ _ _ _ _ _ _ _ _ _ _ _ _ _ _ _ _ _ _ _ _ _ _ _ _ _ _ _ _ _ _ _ _ _ _ _ _ _ _ _ _ _ _ _ _ _ _ _ _ _ _ _ _ _ _ _ _ _ _ _ _ _ _ _ _ _ _ _ _ _ _ _ _
  case first =>
    go_wp2_with fail
    go_loopw [14] (fun iv w2 => ∃ i : Nat, i ≤ ls.length ∧ iv = .int .i64 i ∧ Below wv.heap.size wv w2) (fun iv _ => ls.length - (intOf iv).toNat)
    case atStart => exact ⟨0, Nat.zero_le _, rfl, Below.refl _ _⟩
    case round =>
      obtain ⟨i, hi, rfl, hb⟩ := hrel
      have G := H.next hb
      by_cases hlt : i < ls.length
      · have hlt' : (i : Int) < (ls.length : Int) := by omega
        have hltE : i < EL.length := by rw [HL.out]; exact hlt
        have hfew := H.few
        obtain ⟨sb, so, e, hsb, hc0, hsok⟩ := G.sg.one hlt
        subst e
        obtain ⟨eb, eo, e, heb, he1⟩ := (IE.below hb).one hltE
        subst e
        obtain ⟨gb, go, e, hgb, hf1⟩ := (IF.below hb).one hltE
        subst e
        generalize EL[i] = Ei at *
        generalize ls[i] = s at *
        have A1 : ∀ w', Below wr.heap.size wr w' → w'.cell? ⟨eb, eo + i, none⟩ = some (.int .i64 Ei) := fun w' hb => by rw [hb.cell (p := ⟨eb, eo + i, none⟩) heb]; exact he1
        have A2 : ∀ w', Below wr.heap.size wr w' → w'.cell? ⟨gb, go + i, none⟩ = some (.int .i64 Ei) := fun w' hb => by rw [hb.cell (p := ⟨gb, go + i, none⟩) hgb]; exact hf1
        obtain ⟨hc, hh, hpa, htx, hgu, hst, hre, hbe, hpr, kh, kr, ks, khas, kbl, fa, fcap, fr, ta, tcap, tl⟩ := s
        have zv := G.kv.lt
        have S0 : ∀ w', Below wr.heap.size wr w' → w'.cell? ⟨sb, so + i * 16, none⟩ = some (.int .i64 hc) := fun w' hb => hc0 w' hb 0 _ rfl
        have S1 : ∀ w', Below wr.heap.size wr w' → w'.cell? ⟨sb, so + i * 16 + 1, none⟩ = some (.int .i64 hh) := fun w' hb => hc0 w' hb 1 _ rfl
        have S2 : ∀ w', Below wr.heap.size wr w' → w'.cell? ⟨sb, so + i * 16 + 2, none⟩ = some (.int .u64 hpa) := fun w' hb => hc0 w' hb 2 _ rfl
        have S3 : ∀ w', Below wr.heap.size wr w' → w'.cell? ⟨sb, so + i * 16 + 3, none⟩ = some (.int .u64 htx) := fun w' hb => hc0 w' hb 3 _ rfl
        have S4 : ∀ w', Below wr.heap.size wr w' → w'.cell? ⟨sb, so + i * 16 + 4, none⟩ = some (.int .u64 hgu) := fun w' hb => hc0 w' hb 4 _ rfl
        have S5 : ∀ w', Below wr.heap.size wr w' → w'.cell? ⟨sb, so + i * 16 + 5, none⟩ = some (.int .u64 hst) := fun w' hb => hc0 w' hb 5 _ rfl
        have S6 : ∀ w', Below wr.heap.size wr w' → w'.cell? ⟨sb, so + i * 16 + 6, none⟩ = some (.int .u64 hre) := fun w' hb => hc0 w' hb 6 _ rfl
        have S7 : ∀ w', Below wr.heap.size wr w' → w'.cell? ⟨sb, so + i * 16 + 7, none⟩ = some (.int .u64 hbe) := fun w' hb => hc0 w' hb 7 _ rfl
        have S8 : ∀ w', Below wr.heap.size wr w' → w'.cell? ⟨sb, so + i * 16 + 8, none⟩ = some (.int .i64 hpr) := fun w' hb => hc0 w' hb 8 _ rfl
        have S9 : ∀ w', Below wr.heap.size wr w' → w'.cell? ⟨sb, so + i * 16 + 9, none⟩ = some (.int .i64 kh) := fun w' hb => hc0 w' hb 9 _ rfl
        have S10 : ∀ w', Below wr.heap.size wr w' → w'.cell? ⟨sb, so + i * 16 + 10, none⟩ = some (.int .i64 kr) := fun w' hb => hc0 w' hb 10 _ rfl
        have S11 : ∀ w', Below wr.heap.size wr w' → w'.cell? ⟨sb, so + i * 16 + 11, none⟩ = some (.int .i64 ks) := fun w' hb => hc0 w' hb 11 _ rfl
        have S12 : ∀ w', Below wr.heap.size wr w' → w'.cell? ⟨sb, so + i * 16 + 12, none⟩ = some (.bool khas) := fun w' hb => hc0 w' hb 12 _ rfl
        have S13 : ∀ w', Below wr.heap.size wr w' → w'.cell? ⟨sb, so + i * 16 + 13, none⟩ = some (.int .u64 kbl) := fun w' hb => hc0 w' hb 13 _ rfl
        have S14 : ∀ w', Below wr.heap.size wr w' → w'.cell? ⟨sb, so + i * 16 + 14, none⟩ = some (.slice fa fr.length fcap) := fun w' hb => hc0 w' hb 14 _ rfl
        have S15 : ∀ w', Below wr.heap.size wr w' → w'.cell? ⟨sb, so + i * 16 + 15, none⟩ = some (.slice ta tl.length tcap) := fun w' hb => hc0 w' hb 15 _ rfl
        have KN := fun (y : World) (hy : Below wr.heap.size wr y) => Lname wd ⟨hc, hh, hpa, htx, hgu, hst, hre, hbe, hpr, kh, kr, ks, khas, kbl, fa, fcap, fr, ta, tcap, tl⟩ y wr hwd hsok
        have KR := fun (y : World) (hy : Below wr.heap.size wr y) => Rname wd ⟨hc, hh, hpa, htx, hgu, hst, hre, hbe, hpr, kh, kr, ks, khas, kbl, fa, fcap, fr, ta, tcap, tl⟩ y wr hwd hsok
        generalize Sg.nm ⟨hc, hh, hpa, htx, hgu, hst, hre, hbe, hpr, kh, kr, ks, khas, kbl, fa, fcap, fr, ta, tcap, tl⟩ wd = NM at *
        have bw : Below wr.heap.size wr wr := Below.refl _ _
        have HG := show Hid (LtAt _ _ _ _ _ _) from G
        have HS := show Hid (Sg.Ok _ _) from hsok
        have HC := show Hid (_) from hc0
        have HQ := show Hid (_ ∧ _ ∧ _) from ⟨H, IE, IF⟩
        have HBB := show Hid (Below _ _ _) from hb
        clear G H IE IF he1 hf1 hsok hc0 hb
        go_upto_region 25 with fail
        go_cut [141] (fun bv wx => bv = .bool false ∧ Below wr.heap.size wr wx)
        case first =>
          have bw0 : Below wr.heap.size wr wr.drew := bw.drew
          refine wp_region_held (S := fun w' => Below wr.heap.size wr w') (by kernel_rfl) ?_
          refine wpAnyH_take (i := 0) (v := ?_) rfl (by kernel_rfl) (by kernel_rfl) (by kernel_rfl) (fun _ _ _ h => h) (Or.inl ⟨by kernel_rfl, ?_⟩) (by assumption) ?_
          rotate_left
          · intro w' hSw
            go_simp
            first | (with_reducible rfl) | done | assumption | skip
          simp only [Act.put, List.getElem_toArray, List.getElem_cons_succ, List.getElem_cons_zero, List.setIfInBounds_toArray, List.set_cons_zero, List.set_cons_succ]
          refine wpAnyH_take (i := 1) (v := ?_) rfl (by kernel_rfl) (by kernel_rfl) (by kernel_rfl) (fun _ _ _ h => h) (Or.inl ⟨by kernel_rfl, ?_⟩) (by assumption) ?_
          rotate_left
          · intro w' hSw
            go_simp
            first | (with_reducible rfl) | done | assumption | skip
          simp only [Act.put, List.getElem_toArray, List.getElem_cons_succ, List.getElem_cons_zero, List.setIfInBounds_toArray, List.set_cons_zero, List.set_cons_succ]
          refine wpAnyH_take (i := 2) (v := ?_) rfl (by kernel_rfl) (by kernel_rfl) (by kernel_rfl) (fun _ _ _ h => h) (Or.inl ⟨by kernel_rfl, ?_⟩) (by assumption) ?_
          rotate_left
          · intro w' hSw
            go_simp
            first | (with_reducible rfl) | done | assumption | skip
          simp only [Act.put, List.getElem_toArray, List.getElem_cons_succ, List.getElem_cons_zero, List.setIfInBounds_toArray, List.set_cons_zero, List.set_cons_succ]
          refine wpAnyH_take (i := 3) (v := .int .i64 Ei) rfl (by kernel_rfl) (by kernel_rfl) (by kernel_rfl) (fun _ _ _ h => h) (Or.inl ⟨by kernel_rfl, ?_⟩) (by assumption) ?_
          · intro w' hSw
            have yA1 := A1 _ hSw
            go_simp
            first | (with_reducible rfl) | done | assumption | skip
          simp only [Act.put, List.getElem_toArray, List.getElem_cons_succ, List.getElem_cons_zero, List.setIfInBounds_toArray, List.set_cons_zero, List.set_cons_succ]
          refine wpAnyH_take (i := 4) (v := ?_) rfl (by kernel_rfl) (by kernel_rfl) (by kernel_rfl) (fun _ _ _ h => h) (Or.inl ⟨by kernel_rfl, ?_⟩) (by assumption) ?_
          rotate_left
          · intro w' hSw
            go_simp
            first | (with_reducible rfl) | done | assumption | skip
          simp only [Act.put, List.getElem_toArray, List.getElem_cons_succ, List.getElem_cons_zero, List.setIfInBounds_toArray, List.set_cons_zero, List.set_cons_succ]
          refine wpAnyH_take (i := 5) (v := ?_) rfl (by kernel_rfl) (by kernel_rfl) (by kernel_rfl) (fun _ _ _ h => h) (Or.inl ⟨by kernel_rfl, ?_⟩) (by assumption) ?_
          rotate_left
          · intro w' hSw
            go_simp
            first | (with_reducible rfl) | done | assumption | skip
          simp only [Act.put, List.getElem_toArray, List.getElem_cons_succ, List.getElem_cons_zero, List.setIfInBounds_toArray, List.set_cons_zero, List.set_cons_succ]
          refine wpAnyH_take (i := 6) (v := ?_) rfl (by kernel_rfl) (by kernel_rfl) (by kernel_rfl) (fun _ _ _ h => h) (Or.inl ⟨by kernel_rfl, ?_⟩) (by assumption) ?_
          rotate_left
          · intro w' hSw
            go_simp
            first | (with_reducible rfl) | done | assumption | skip
          simp only [Act.put, List.getElem_toArray, List.getElem_cons_succ, List.getElem_cons_zero, List.setIfInBounds_toArray, List.set_cons_zero, List.set_cons_succ]
          refine wpAnyH_take (i := 7) (v := .int .i64 Ei) rfl (by kernel_rfl) (by kernel_rfl) (by kernel_rfl) (fun _ _ _ h => h) (Or.inl ⟨by kernel_rfl, ?_⟩) (by assumption) ?_
          · intro w' hSw
            have yA2 := A2 _ hSw
            go_simp
            first | (with_reducible rfl) | done | assumption | skip
          simp only [Act.put, List.getElem_toArray, List.getElem_cons_succ, List.getElem_cons_zero, List.setIfInBounds_toArray, List.set_cons_zero, List.set_cons_succ]
          refine wpAnyH_take (i := 8) (v := .bool false) rfl (by kernel_rfl) (by kernel_rfl) (by kernel_rfl) (fun _ _ _ h => h) (Or.inl ⟨by kernel_rfl, ?_⟩) (by assumption) ?_
          · intro w' hSw
            go_simp
            first | (with_reducible rfl) | done | assumption | skip
          simp only [Act.put, List.getElem_toArray, List.getElem_cons_succ, List.getElem_cons_zero, List.setIfInBounds_toArray, List.set_cons_zero, List.set_cons_succ]
          refine wpAnyH_take (i := 9) (v := .bool false) rfl (by kernel_rfl) (by kernel_rfl) (by kernel_rfl) (fun _ _ _ h => h) (Or.inl ⟨by kernel_rfl, ?_⟩) (by assumption) ?_
          · intro w' hSw
            go_simp
            first | (with_reducible rfl) | done | assumption | skip
          simp only [Act.put, List.getElem_toArray, List.getElem_cons_succ, List.getElem_cons_zero, List.setIfInBounds_toArray, List.set_cons_zero, List.set_cons_succ]
          refine wpAnyH_take (i := 10) (v := ?_) rfl (by kernel_rfl) (by kernel_rfl) (by kernel_rfl) (fun _ _ _ h => h) (Or.inl ⟨by kernel_rfl, ?_⟩) (by assumption) ?_
          rotate_left
          · intro w' hSw
            go_simp
            first | (with_reducible rfl) | done | assumption | skip
          simp only [Act.put, List.getElem_toArray, List.getElem_cons_succ, List.getElem_cons_zero, List.setIfInBounds_toArray, List.set_cons_zero, List.set_cons_succ]
          refine wpAnyH_take (i := 11) (v := ?_) rfl (by kernel_rfl) (by kernel_rfl) (by kernel_rfl) (fun _ _ _ h => h) (Or.inl ⟨by kernel_rfl, ?_⟩) (by assumption) ?_
          rotate_left
          · intro w' hSw
            go_simp
            first | (with_reducible rfl) | done | assumption | skip
          simp only [Act.put, List.getElem_toArray, List.getElem_cons_succ, List.getElem_cons_zero, List.setIfInBounds_toArray, List.set_cons_zero, List.set_cons_succ]
          refine wpAnyH_take (i := 12) (v := ?_) rfl (by kernel_rfl) (by kernel_rfl) (by kernel_rfl) (fun _ _ _ h => h) (Or.inl ⟨by kernel_rfl, ?_⟩) (by assumption) ?_
          rotate_left
          · intro w' hSw
            go_simp
            first | (with_reducible rfl) | done | assumption | skip
          simp only [Act.put, List.getElem_toArray, List.getElem_cons_succ, List.getElem_cons_zero, List.setIfInBounds_toArray, List.set_cons_zero, List.set_cons_succ]
          refine wpAnyH_take (i := 13) (v := ?_) rfl (by kernel_rfl) (by kernel_rfl) (by kernel_rfl) (fun _ _ _ h => h) (Or.inl ⟨by kernel_rfl, ?_⟩) (by assumption) ?_
          rotate_left
          · intro w' hSw
            go_simp
            first | (with_reducible rfl) | done | assumption | skip
          simp only [Act.put, List.getElem_toArray, List.getElem_cons_succ, List.getElem_cons_zero, List.setIfInBounds_toArray, List.set_cons_zero, List.set_cons_succ]
          refine wpAnyH_take (i := 14) (v := ?_) rfl (by kernel_rfl) (by kernel_rfl) (by kernel_rfl) (fun _ _ _ h => h) (Or.inl ⟨by kernel_rfl, ?_⟩) (by assumption) ?_
          rotate_left
          · intro w' hSw
            go_simp
            first | (with_reducible rfl) | done | assumption | skip
          simp only [Act.put, List.getElem_toArray, List.getElem_cons_succ, List.getElem_cons_zero, List.setIfInBounds_toArray, List.set_cons_zero, List.set_cons_succ]
          refine wpAnyH_take (i := 15) (v := .agg #[.int .i64 hc, .int .i64 hh, .int .u64 hpa, .int .u64 htx, .int .u64 hgu, .int .u64 hst, .int .u64 hre, .int .u64 hbe, .int .i64 hpr]) rfl (by kernel_rfl) (by kernel_rfl) (by kernel_rfl) (fun _ _ _ h => h) (Or.inl ⟨by kernel_rfl, ?_⟩) (by assumption) ?_
          · intro w' hSw
            have yS0 := S0 _ hSw
            have yS1 := S1 _ hSw
            have yS2 := S2 _ hSw
            have yS3 := S3 _ hSw
            have yS4 := S4 _ hSw
            have yS5 := S5 _ hSw
            have yS6 := S6 _ hSw
            have yS7 := S7 _ hSw
            have yS8 := S8 _ hSw
            go_simp
            first | (with_reducible rfl) | done | assumption | skip
          simp only [Act.put, List.getElem_toArray, List.getElem_cons_succ, List.getElem_cons_zero, List.setIfInBounds_toArray, List.set_cons_zero, List.set_cons_succ]
          refine wpAnyH_take (i := 17) (v := ?_) rfl (by kernel_rfl) (by kernel_rfl) (by kernel_rfl) (fun _ _ _ h => h) (Or.inl ⟨by kernel_rfl, ?_⟩) (by assumption) ?_
          rotate_left
          · intro w' hSw
            go_simp
            first | (with_reducible rfl) | done | assumption | skip
          simp only [Act.put, List.getElem_toArray, List.getElem_cons_succ, List.getElem_cons_zero, List.setIfInBounds_toArray, List.set_cons_zero, List.set_cons_succ]
          refine wpAnyH_take (i := 18) (v := ?_) rfl (by kernel_rfl) (by kernel_rfl) (by kernel_rfl) (fun _ _ _ h => h) (Or.inl ⟨by kernel_rfl, ?_⟩) (by assumption) ?_
          rotate_left
          · intro w' hSw
            go_simp
            first | (with_reducible rfl) | done | assumption | skip
          simp only [Act.put, List.getElem_toArray, List.getElem_cons_succ, List.getElem_cons_zero, List.setIfInBounds_toArray, List.set_cons_zero, List.set_cons_succ]
          refine wpAnyH_take (i := 19) (v := ?_) rfl (by kernel_rfl) (by kernel_rfl) (by kernel_rfl) (fun _ _ _ h => h) (Or.inl ⟨by kernel_rfl, ?_⟩) (by assumption) ?_
          rotate_left
          · intro w' hSw
            go_simp
            first | (with_reducible rfl) | done | assumption | skip
          simp only [Act.put, List.getElem_toArray, List.getElem_cons_succ, List.getElem_cons_zero, List.setIfInBounds_toArray, List.set_cons_zero, List.set_cons_succ]
          refine wpAnyH_take (i := 20) (v := ?_) rfl (by kernel_rfl) (by kernel_rfl) (by kernel_rfl) (fun _ _ _ h => h) (Or.inl ⟨by kernel_rfl, ?_⟩) (by assumption) ?_
          rotate_left
          · intro w' hSw
            go_simp
            first | (with_reducible rfl) | done | assumption | skip
          simp only [Act.put, List.getElem_toArray, List.getElem_cons_succ, List.getElem_cons_zero, List.setIfInBounds_toArray, List.set_cons_zero, List.set_cons_succ]
          refine wpAnyH_take (i := 21) (v := ?_) rfl (by kernel_rfl) (by kernel_rfl) (by kernel_rfl) (fun _ _ _ h => h) (Or.inl ⟨by kernel_rfl, ?_⟩) (by assumption) ?_
          rotate_left
          · intro w' hSw
            go_simp
            first | (with_reducible rfl) | done | assumption | skip
          simp only [Act.put, List.getElem_toArray, List.getElem_cons_succ, List.getElem_cons_zero, List.setIfInBounds_toArray, List.set_cons_zero, List.set_cons_succ]
          refine wpAnyH_take (i := 22) (v := .agg #[.int .i64 hc, .int .i64 hh, .int .u64 hpa, .int .u64 htx, .int .u64 hgu, .int .u64 hst, .int .u64 hre, .int .u64 hbe, .int .i64 hpr]) rfl (by kernel_rfl) (by kernel_rfl) (by kernel_rfl) (fun _ _ _ h => h) (Or.inl ⟨by kernel_rfl, ?_⟩) (by assumption) ?_
          · intro w' hSw
            have yS0 := S0 _ hSw
            have yS1 := S1 _ hSw
            have yS2 := S2 _ hSw
            have yS3 := S3 _ hSw
            have yS4 := S4 _ hSw
            have yS5 := S5 _ hSw
            have yS6 := S6 _ hSw
            have yS7 := S7 _ hSw
            have yS8 := S8 _ hSw
            go_simp
            first | (with_reducible rfl) | done | assumption | skip
          simp only [Act.put, List.getElem_toArray, List.getElem_cons_succ, List.getElem_cons_zero, List.setIfInBounds_toArray, List.set_cons_zero, List.set_cons_succ]
          refine wpAnyH_ready (rs := [16]) (by kernel_rfl) (by simp) ?_
          refine AllReadyH.cons rfl (fun K hK => ?_) AllReadyH.nil
          go_simp
          refine (KN _ (by assumption)).mono ?_
          rintro e w3 ⟨rfl, b3⟩
          have hN3 : Below wr.heap.size wr w3 := Below.trans bw0 (b3.mono (Below.size bw0))
          refine hK.out _ _ hN3 (fun _ => ?_)
          clear hK K
          try simp only [Act.put, List.getElem_toArray, List.getElem_cons_succ, List.getElem_cons_zero, List.setIfInBounds_toArray, List.set_cons_zero, List.set_cons_succ]
          refine wpAnyH_ready (rs := [23]) (by kernel_rfl) (by simp) ?_
          refine AllReadyH.cons rfl (fun K hK => ?_) AllReadyH.nil
          go_simp
          refine (KR _ (by assumption)).mono ?_
          rintro e w4 ⟨rfl, b4⟩
          have hN4 : Below wr.heap.size wr w4 := Below.trans hN3 (b4.mono (Below.size hN3))
          refine hK.out _ _ hN4 (fun _ => ?_)
          clear hK K
          try simp only [Act.put, List.getElem_toArray, List.getElem_cons_succ, List.getElem_cons_zero, List.setIfInBounds_toArray, List.set_cons_zero, List.set_cons_succ]
          refine wpAnyH_take (i := 24) (v := .bool false) rfl (by kernel_rfl) (by kernel_rfl) (by kernel_rfl) (fun _ _ _ h => h) (Or.inl ⟨by kernel_rfl, ?_⟩) (by assumption) ?_
          · intro w' hSw
            go_simp
            first | (with_reducible rfl) | done | assumption | skip
          simp only [Act.put, List.getElem_toArray, List.getElem_cons_succ, List.getElem_cons_zero, List.setIfInBounds_toArray, List.set_cons_zero, List.set_cons_succ]
          refine wpAnyH_take (i := 25) (v := .bool false) rfl (by kernel_rfl) (by kernel_rfl) (by kernel_rfl) (fun _ _ _ h => h) (Or.inl ⟨by kernel_rfl, ?_⟩) (by assumption) ?_
          · intro w' hSw
            go_simp
            first | (with_reducible rfl) | done | assumption | skip
          simp only [Act.put, List.getElem_toArray, List.getElem_cons_succ, List.getElem_cons_zero, List.setIfInBounds_toArray, List.set_cons_zero, List.set_cons_succ]
          refine wpAnyH_done (by kernel_rfl) ?_ _
          go_wp2_with fail
          go_meet
          case rel => exact ⟨rfl, hN4⟩
        case rest =>
          obtain ⟨rfl, bx⟩ := hcut
          generalize wc = wx at *
          clear S0 S1 S2 S3 S4 S5 S6 S7 S8 S9 S10 S11 S12 S13 S14 S15 A1 A2 KN KR bw
          have G := HG.out.next bx
          have hsok := HS.out.below bx
          have hc0 := fun (w' : World) (hb : Below wx.heap.size wx w') => HC.out w' (bx.trans (hb.mono bx.size))
          have V0 : ∀ w', Below wx.heap.size wx w' → w'.cell? ⟨w.heap.size, 0, none⟩ = some (.int .i64 c) := fun w' hb => ((G.kv.below hb G.kv.lt).cell 0).trans rfl
          have V1 : ∀ w', Below wx.heap.size wx w' → w'.cell? ⟨w.heap.size, 1, none⟩ = some (.int .i64 wi) := fun w' hb => ((G.kv.below hb G.kv.lt).cell 1).trans rfl
          have V2 : ∀ w', Below wx.heap.size wx w' → w'.cell? ⟨w.heap.size, 2, none⟩ = some (.int .i64 ep) := fun w' hb => ((G.kv.below hb G.kv.lt).cell 2).trans rfl
          have V3 : ∀ w', Below wx.heap.size wx w' → w'.cell? ⟨w.heap.size, 3, none⟩ = some (.int .i64 h) := fun w' hb => ((G.kv.below hb G.kv.lt).cell 3).trans rfl
          have V4 : ∀ w', Below wx.heap.size wx w' → w'.cell? ⟨w.heap.size, 4, none⟩ = some (.int .u64 st) := fun w' hb => ((G.kv.below hb G.kv.lt).cell 4).trans rfl
          have V5 : ∀ w', Below wx.heap.size wx w' → w'.cell? ⟨w.heap.size, 5, none⟩ = some (.slice a l.length cap) := fun w' hb => ((G.kv.below hb G.kv.lt).cell 5).trans rfl
          have S0 : ∀ w', Below wx.heap.size wx w' → w'.cell? ⟨sb, so + i * 16, none⟩ = some (.int .i64 hc) := fun w' hb => hc0 w' hb 0 _ rfl
          have S1 : ∀ w', Below wx.heap.size wx w' → w'.cell? ⟨sb, so + i * 16 + 1, none⟩ = some (.int .i64 hh) := fun w' hb => hc0 w' hb 1 _ rfl
          have S2 : ∀ w', Below wx.heap.size wx w' → w'.cell? ⟨sb, so + i * 16 + 2, none⟩ = some (.int .u64 hpa) := fun w' hb => hc0 w' hb 2 _ rfl
          have S3 : ∀ w', Below wx.heap.size wx w' → w'.cell? ⟨sb, so + i * 16 + 3, none⟩ = some (.int .u64 htx) := fun w' hb => hc0 w' hb 3 _ rfl
          have S4 : ∀ w', Below wx.heap.size wx w' → w'.cell? ⟨sb, so + i * 16 + 4, none⟩ = some (.int .u64 hgu) := fun w' hb => hc0 w' hb 4 _ rfl
          have S5 : ∀ w', Below wx.heap.size wx w' → w'.cell? ⟨sb, so + i * 16 + 5, none⟩ = some (.int .u64 hst) := fun w' hb => hc0 w' hb 5 _ rfl
          have S6 : ∀ w', Below wx.heap.size wx w' → w'.cell? ⟨sb, so + i * 16 + 6, none⟩ = some (.int .u64 hre) := fun w' hb => hc0 w' hb 6 _ rfl
          have S7 : ∀ w', Below wx.heap.size wx w' → w'.cell? ⟨sb, so + i * 16 + 7, none⟩ = some (.int .u64 hbe) := fun w' hb => hc0 w' hb 7 _ rfl
          have S8 : ∀ w', Below wx.heap.size wx w' → w'.cell? ⟨sb, so + i * 16 + 8, none⟩ = some (.int .i64 hpr) := fun w' hb => hc0 w' hb 8 _ rfl
          have S9 : ∀ w', Below wx.heap.size wx w' → w'.cell? ⟨sb, so + i * 16 + 9, none⟩ = some (.int .i64 kh) := fun w' hb => hc0 w' hb 9 _ rfl
          have S10 : ∀ w', Below wx.heap.size wx w' → w'.cell? ⟨sb, so + i * 16 + 10, none⟩ = some (.int .i64 kr) := fun w' hb => hc0 w' hb 10 _ rfl
          have S11 : ∀ w', Below wx.heap.size wx w' → w'.cell? ⟨sb, so + i * 16 + 11, none⟩ = some (.int .i64 ks) := fun w' hb => hc0 w' hb 11 _ rfl
          have S12 : ∀ w', Below wx.heap.size wx w' → w'.cell? ⟨sb, so + i * 16 + 12, none⟩ = some (.bool khas) := fun w' hb => hc0 w' hb 12 _ rfl
          have S13 : ∀ w', Below wx.heap.size wx w' → w'.cell? ⟨sb, so + i * 16 + 13, none⟩ = some (.int .u64 kbl) := fun w' hb => hc0 w' hb 13 _ rfl
          have S14 : ∀ w', Below wx.heap.size wx w' → w'.cell? ⟨sb, so + i * 16 + 14, none⟩ = some (.slice fa fr.length fcap) := fun w' hb => hc0 w' hb 14 _ rfl
          have S15 : ∀ w', Below wx.heap.size wx w' → w'.cell? ⟨sb, so + i * 16 + 15, none⟩ = some (.slice ta tl.length tcap) := fun w' hb => hc0 w' hb 15 _ rfl
          have KA := fun (y : World) (hy : Below wx.heap.size wx y) => (Lacc ⟨c, wi, ep, h, st, a, cap, l⟩ ⟨hc, hh, hpa, htx, hgu, hst, hre, hbe, hpr, kh, kr, ks, khas, kbl, fa, fcap, fr, ta, tcap, tl⟩ y (G.ok.below hy) (hsok.below hy)).mono fun e w' q => acc_res q
          have hsb1 : sb < wx.heap.size := Nat.lt_of_lt_of_le hsb bx.size
          have zv1 : w.heap.size < wx.heap.size := G.kv.lt
          obtain ⟨E, HE⟩ : ∃ z, Hid (accE ⟨c, wi, ep, h, st, a, cap, l⟩ ⟨hc, hh, hpa, htx, hgu, hst, hre, hbe, hpr, kh, kr, ks, khas, kbl, fa, fcap, fr, ta, tcap, tl⟩ = z) := ⟨_, rfl⟩
          obtain ⟨R, HR⟩ : ∃ z, Hid (resV ⟨c, wi, ep, h, st, a, cap, l⟩ ⟨hc, hh, hpa, htx, hgu, hst, hre, hbe, hpr, kh, kr, ks, khas, kbl, fa, fcap, fr, ta, tcap, tl⟩ = z) := ⟨_, rfl⟩
          have HF2 : Hid (∀ u : Vw, u.norm = R → u.l.length ≤ 1000000) := fun u hu => resV_len hsok.few (hu.trans HR.out.symm)
          rw [HE.out, HR.out] at KA
          have bw : Below wx.heap.size wx wx := Below.refl _ _
          have HG1 := show Hid (LtAt _ _ _ _ _ _) from G
          have HS1 := show Hid (Sg.Ok _ _) from hsok
          have HC1 := show Hid (_) from hc0
          clear G hsok hc0 HG HS HC
          go_upto_region 27 with fail
          go_cut [15, 16] (fun yv ev wy => ev = .int .i64 E ∧ AccIn wx R yv wy)
          case first =>
            have bw0 : Below wx.heap.size wx wx.drew := bw.drew
            refine wp_region_held (S := fun w' => Below wx.heap.size wx w') (by kernel_rfl) ?_
            refine wpAnyH_take (i := 0) (v := .agg #[.int .i64 c, .int .i64 wi, .int .i64 ep, .int .i64 h, .int .u64 st, .slice a l.length cap]) rfl (by kernel_rfl) (by kernel_rfl) (by kernel_rfl) (fun _ _ _ h => h) (Or.inl ⟨by kernel_rfl, ?_⟩) (by assumption) ?_
            · intro w' hSw
              have yV0 := V0 _ hSw
              have yV1 := V1 _ hSw
              have yV2 := V2 _ hSw
              have yV3 := V3 _ hSw
              have yV4 := V4 _ hSw
              have yV5 := V5 _ hSw
              go_simp
              first | (with_reducible rfl) | done | assumption | skip
            simp only [Act.put, List.getElem_toArray, List.getElem_cons_succ, List.getElem_cons_zero, List.setIfInBounds_toArray, List.set_cons_zero, List.set_cons_succ]
            refine wpAnyH_take (i := 1) (v := ?_) rfl (by kernel_rfl) (by kernel_rfl) (by kernel_rfl) (fun _ _ _ h => h) (Or.inl ⟨by kernel_rfl, ?_⟩) (by assumption) ?_
            rotate_left
            · intro w' hSw
              go_simp
              first | (with_reducible rfl) | done | assumption | skip
            simp only [Act.put, List.getElem_toArray, List.getElem_cons_succ, List.getElem_cons_zero, List.setIfInBounds_toArray, List.set_cons_zero, List.set_cons_succ]
            refine wpAnyH_take (i := 2) (v := ?_) rfl (by kernel_rfl) (by kernel_rfl) (by kernel_rfl) (fun _ _ _ h => h) (Or.inl ⟨by kernel_rfl, ?_⟩) (by assumption) ?_
            rotate_left
            · intro w' hSw
              go_simp
              first | (with_reducible rfl) | done | assumption | skip
            simp only [Act.put, List.getElem_toArray, List.getElem_cons_succ, List.getElem_cons_zero, List.setIfInBounds_toArray, List.set_cons_zero, List.set_cons_succ]
            refine wpAnyH_take (i := 3) (v := ?_) rfl (by kernel_rfl) (by kernel_rfl) (by kernel_rfl) (fun _ _ _ h => h) (Or.inl ⟨by kernel_rfl, ?_⟩) (by assumption) ?_
            rotate_left
            · intro w' hSw
              go_simp
              first | (with_reducible rfl) | done | assumption | skip
            simp only [Act.put, List.getElem_toArray, List.getElem_cons_succ, List.getElem_cons_zero, List.setIfInBounds_toArray, List.set_cons_zero, List.set_cons_succ]
            refine wpAnyH_take (i := 4) (v := .agg #[.int .i64 hc, .int .i64 hh, .int .u64 hpa, .int .u64 htx, .int .u64 hgu, .int .u64 hst, .int .u64 hre, .int .u64 hbe, .int .i64 hpr, .int .i64 kh, .int .i64 kr, .int .i64 ks, .bool khas, .int .u64 kbl, .slice fa fr.length fcap, .slice ta tl.length tcap]) rfl (by kernel_rfl) (by kernel_rfl) (by kernel_rfl) (fun _ _ _ h => h) (Or.inl ⟨by kernel_rfl, ?_⟩) (by assumption) ?_
            · intro w' hSw
              have yS0 := S0 _ hSw
              have yS1 := S1 _ hSw
              have yS2 := S2 _ hSw
              have yS3 := S3 _ hSw
              have yS4 := S4 _ hSw
              have yS5 := S5 _ hSw
              have yS6 := S6 _ hSw
              have yS7 := S7 _ hSw
              have yS8 := S8 _ hSw
              have yS9 := S9 _ hSw
              have yS10 := S10 _ hSw
              have yS11 := S11 _ hSw
              have yS12 := S12 _ hSw
              have yS13 := S13 _ hSw
              have yS14 := S14 _ hSw
              have yS15 := S15 _ hSw
              go_simp
              first | (with_reducible rfl) | done | assumption | skip
            simp only [Act.put, List.getElem_toArray, List.getElem_cons_succ, List.getElem_cons_zero, List.setIfInBounds_toArray, List.set_cons_zero, List.set_cons_succ]
            clear V0 V1 V2 V3 V4 V5 S0 S1 S2 S3 S4 S5 S6 S7 S8 S9 S10 S11 S12 S13 S14 S15
            refine wpAnyH_ready (rs := [5, 9]) (by kernel_rfl) (by simp) ?_
            refine AllReadyH.cons rfl (fun K hK => ?_) (AllReadyH.cons rfl (fun K hK => ?_) AllReadyH.nil)
            · go_simp
              refine (KA _ (by assumption)).mono ?_
              rintro e w3 ⟨⟨qc, qwi, qep, qh, qst, qa, qcap, ql⟩, rfl, hnx, slx, frx, b3⟩
              have hNext : Below wx.heap.size wx w3 := Below.trans bw0 (b3.mono (Below.size bw0))
              refine hK.out _ _ hNext (fun _ => ?_)
              clear hK K
              try simp only [Act.put, List.getElem_toArray, List.getElem_cons_succ, List.getElem_cons_zero, List.setIfInBounds_toArray, List.set_cons_zero, List.set_cons_succ]
              refine wpAnyH_take (i := 6) (v := ?_) rfl (by kernel_rfl) (by kernel_rfl) (by kernel_rfl) (fun _ _ _ h => h) (Or.inl ⟨by kernel_rfl, ?_⟩) (by assumption) ?_
              rotate_left
              · intro w' hSw
                go_simp
                first | (with_reducible rfl) | done | assumption | skip
              simp only [Act.put, List.getElem_toArray, List.getElem_cons_succ, List.getElem_cons_zero, List.setIfInBounds_toArray, List.set_cons_zero, List.set_cons_succ]
              refine wpAnyH_take (i := 7) (v := ?_) rfl (by kernel_rfl) (by kernel_rfl) (by kernel_rfl) (fun _ _ _ h => h) (Or.inl ⟨by kernel_rfl, ?_⟩) (by assumption) ?_
              rotate_left
              · intro w' hSw
                go_simp
                first | (with_reducible rfl) | done | assumption | skip
              simp only [Act.put, List.getElem_toArray, List.getElem_cons_succ, List.getElem_cons_zero, List.setIfInBounds_toArray, List.set_cons_zero, List.set_cons_succ]
              refine wpAnyH_take (i := 8) (v := ?_) rfl (by kernel_rfl) (by kernel_rfl) (by kernel_rfl) (fun _ _ _ h => h) (Or.inl ⟨by kernel_rfl, ?_⟩) (by assumption) ?_
              rotate_left
              · intro w' hSw
                go_simp
                first | (with_reducible rfl) | done | assumption | skip
              simp only [Act.put, List.getElem_toArray, List.getElem_cons_succ, List.getElem_cons_zero, List.setIfInBounds_toArray, List.set_cons_zero, List.set_cons_succ]
              refine wpAnyH_ready (rs := [9]) (by kernel_rfl) (by simp) ?_
              refine AllReadyH.cons rfl (fun K hK => ?_) AllReadyH.nil
              go_simp
              refine hK.out _ _ (bel_al hNext _) (fun _ => ?_)
              clear hK K
              try simp only [Act.put, List.getElem_toArray, List.getElem_cons_succ, List.getElem_cons_zero, List.setIfInBounds_toArray, List.set_cons_zero, List.set_cons_succ]
              refine wpAnyH_ready (rs := [10]) (by kernel_rfl) (by simp) ?_
              refine AllReadyH.cons rfl (fun K hK => ?_) AllReadyH.nil
              go_simp
              refine hK.out _ _ (bel_al hNext _) (fun _ => ?_)
              clear hK K
              try simp only [Act.put, List.getElem_toArray, List.getElem_cons_succ, List.getElem_cons_zero, List.setIfInBounds_toArray, List.set_cons_zero, List.set_cons_succ]
              refine wpAnyH_take (i := 11) (v := ?_) rfl (by kernel_rfl) (by kernel_rfl) (by kernel_rfl) (fun _ _ _ h => h) (Or.inl ⟨by kernel_rfl, ?_⟩) (by assumption) ?_
              rotate_left
              · intro w' hSw
                go_simp
                first | (with_reducible rfl) | done | assumption | skip
              simp only [Act.put, List.getElem_toArray, List.getElem_cons_succ, List.getElem_cons_zero, List.setIfInBounds_toArray, List.set_cons_zero, List.set_cons_succ]
              refine wpAnyH_done (by kernel_rfl) ?_ _
              go_wp2_with fail
              go_meet
              case rel => exact ⟨rfl, AccIn.late (vx := ⟨qc, qwi, qep, qh, qst, qa, qcap, ql⟩) hnx slx hNext⟩
            · go_simp
              have bw1 := bel_al bw0 (.cells #[.int .i64 0, .int .i64 0, .int .i64 0, .int .i64 0, .int .u64 0, .slice none 0 0] 26)
              refine hK.out _ _ bw1 (fun _ => ?_)
              clear hK K
              try simp only [Act.put, List.getElem_toArray, List.getElem_cons_succ, List.getElem_cons_zero, List.setIfInBounds_toArray, List.set_cons_zero, List.set_cons_succ]
              refine wpAnyH_ready (rs := [5]) (by kernel_rfl) (by simp) ?_
              refine AllReadyH.cons rfl (fun K hK => ?_) AllReadyH.nil
              go_simp
              refine (KA _ (by assumption)).mono ?_
              rintro e w3 ⟨⟨qc, qwi, qep, qh, qst, qa, qcap, ql⟩, rfl, hnx, slx, frx, b3⟩
              have hNext : Below wx.heap.size wx w3 := Below.trans bw1 (b3.mono (Below.size bw1))
              have ow := own2 b3
              have oc0 := (ow.cell 0).trans rfl
              have of0 := ow.frozen 0
              have oc1 := (ow.cell 1).trans rfl
              have of1 := ow.frozen 1
              have oc2 := (ow.cell 2).trans rfl
              have of2 := ow.frozen 2
              have oc3 := (ow.cell 3).trans rfl
              have of3 := ow.frozen 3
              have oc4 := (ow.cell 4).trans rfl
              have of4 := ow.frozen 4
              have oc5 := (ow.cell 5).trans rfl
              have of5 := ow.frozen 5
              have ol := ow.lt
              refine hK.out _ _ hNext (fun _ => ?_)
              clear hK K
              try simp only [Act.put, List.getElem_toArray, List.getElem_cons_succ, List.getElem_cons_zero, List.setIfInBounds_toArray, List.set_cons_zero, List.set_cons_succ]
              refine wpAnyH_take (i := 6) (v := ?_) rfl (by kernel_rfl) (by kernel_rfl) (by kernel_rfl) (fun _ _ _ h => h) (Or.inl ⟨by kernel_rfl, ?_⟩) (by assumption) ?_
              rotate_left
              · intro w' hSw
                go_simp
                first | (with_reducible rfl) | done | assumption | skip
              simp only [Act.put, List.getElem_toArray, List.getElem_cons_succ, List.getElem_cons_zero, List.setIfInBounds_toArray, List.set_cons_zero, List.set_cons_succ]
              refine wpAnyH_take (i := 7) (v := ?_) rfl (by kernel_rfl) (by kernel_rfl) (by kernel_rfl) (fun _ _ _ h => h) (Or.inl ⟨by kernel_rfl, ?_⟩) (by assumption) ?_
              rotate_left
              · intro w' hSw
                go_simp
                first | (with_reducible rfl) | done | assumption | skip
              simp only [Act.put, List.getElem_toArray, List.getElem_cons_succ, List.getElem_cons_zero, List.setIfInBounds_toArray, List.set_cons_zero, List.set_cons_succ]
              refine wpAnyH_take (i := 8) (v := ?_) rfl (by kernel_rfl) (by kernel_rfl) (by kernel_rfl) (fun _ _ _ h => h) (Or.inl ⟨by kernel_rfl, ?_⟩) (by assumption) ?_
              rotate_left
              · intro w' hSw
                go_simp
                first | (with_reducible rfl) | done | assumption | skip
              simp only [Act.put, List.getElem_toArray, List.getElem_cons_succ, List.getElem_cons_zero, List.setIfInBounds_toArray, List.set_cons_zero, List.set_cons_succ]
              refine wpAnyH_ready (rs := [10]) (by kernel_rfl) (by simp) ?_
              refine AllReadyH.cons rfl (fun K hK => ?_) AllReadyH.nil
              go_simp
              refine hK.out _ _ (bel_st (bel_st (bel_st (bel_st (bel_st (bel_st hNext (Nat.le_refl _) _) (Nat.le_refl _) _) (Nat.le_refl _) _) (Nat.le_refl _) _) (Nat.le_refl _) _) (Nat.le_refl _) _) (fun _ => ?_)
              clear hK K
              try simp only [Act.put, List.getElem_toArray, List.getElem_cons_succ, List.getElem_cons_zero, List.setIfInBounds_toArray, List.set_cons_zero, List.set_cons_succ]
              refine wpAnyH_take (i := 11) (v := ?_) rfl (by kernel_rfl) (by kernel_rfl) (by kernel_rfl) (fun _ _ _ h => h) (Or.inl ⟨by kernel_rfl, ?_⟩) (by assumption) ?_
              rotate_left
              · intro w' hSw
                go_simp
                first | (with_reducible rfl) | done | assumption | skip
              simp only [Act.put, List.getElem_toArray, List.getElem_cons_succ, List.getElem_cons_zero, List.setIfInBounds_toArray, List.set_cons_zero, List.set_cons_succ]
              refine wpAnyH_done (by kernel_rfl) ?_ _
              go_wp2_with fail
              go_meet
              case rel => exact ⟨rfl, AccIn.early (vx := ⟨qc, qwi, qep, qh, qst, qa, qcap, ql⟩) hnx slx (fun a ha => by have := frx a ha; simpa using this) hNext ow⟩
          case rest =>
            obtain ⟨rfl, nb, vx, rfl, hnb, kn, hnx, slx, by_⟩ := hcut
            generalize wc = wy at *
            clear V0 V1 V2 V3 V4 V5 S0 S1 S2 S3 S4 S5 S6 S7 S8 S9 S10 S11 S12 S13 S14 S15 KA bw
            have G := HG1.out.next by_
            have hsok := HS1.out.below by_
            have hc0 := fun (w' : World) (hb : Below wy.heap.size wy w') => HC1.out w' (by_.trans (hb.mono by_.size))
            have V0 : ∀ w', Below wy.heap.size wy w' → w'.cell? ⟨w.heap.size, 0, none⟩ = some (.int .i64 c) := fun w' hb => ((G.kv.below hb G.kv.lt).cell 0).trans rfl
            have V1 : ∀ w', Below wy.heap.size wy w' → w'.cell? ⟨w.heap.size, 1, none⟩ = some (.int .i64 wi) := fun w' hb => ((G.kv.below hb G.kv.lt).cell 1).trans rfl
            have V2 : ∀ w', Below wy.heap.size wy w' → w'.cell? ⟨w.heap.size, 2, none⟩ = some (.int .i64 ep) := fun w' hb => ((G.kv.below hb G.kv.lt).cell 2).trans rfl
            have V3 : ∀ w', Below wy.heap.size wy w' → w'.cell? ⟨w.heap.size, 3, none⟩ = some (.int .i64 h) := fun w' hb => ((G.kv.below hb G.kv.lt).cell 3).trans rfl
            have V4 : ∀ w', Below wy.heap.size wy w' → w'.cell? ⟨w.heap.size, 4, none⟩ = some (.int .u64 st) := fun w' hb => ((G.kv.below hb G.kv.lt).cell 4).trans rfl
            have V5 : ∀ w', Below wy.heap.size wy w' → w'.cell? ⟨w.heap.size, 5, none⟩ = some (.slice a l.length cap) := fun w' hb => ((G.kv.below hb G.kv.lt).cell 5).trans rfl
            have S0 : ∀ w', Below wy.heap.size wy w' → w'.cell? ⟨sb, so + i * 16, none⟩ = some (.int .i64 hc) := fun w' hb => hc0 w' hb 0 _ rfl
            have S1 : ∀ w', Below wy.heap.size wy w' → w'.cell? ⟨sb, so + i * 16 + 1, none⟩ = some (.int .i64 hh) := fun w' hb => hc0 w' hb 1 _ rfl
            have S2 : ∀ w', Below wy.heap.size wy w' → w'.cell? ⟨sb, so + i * 16 + 2, none⟩ = some (.int .u64 hpa) := fun w' hb => hc0 w' hb 2 _ rfl
            have S3 : ∀ w', Below wy.heap.size wy w' → w'.cell? ⟨sb, so + i * 16 + 3, none⟩ = some (.int .u64 htx) := fun w' hb => hc0 w' hb 3 _ rfl
            have S4 : ∀ w', Below wy.heap.size wy w' → w'.cell? ⟨sb, so + i * 16 + 4, none⟩ = some (.int .u64 hgu) := fun w' hb => hc0 w' hb 4 _ rfl
            have S5 : ∀ w', Below wy.heap.size wy w' → w'.cell? ⟨sb, so + i * 16 + 5, none⟩ = some (.int .u64 hst) := fun w' hb => hc0 w' hb 5 _ rfl
            have S6 : ∀ w', Below wy.heap.size wy w' → w'.cell? ⟨sb, so + i * 16 + 6, none⟩ = some (.int .u64 hre) := fun w' hb => hc0 w' hb 6 _ rfl
            have S7 : ∀ w', Below wy.heap.size wy w' → w'.cell? ⟨sb, so + i * 16 + 7, none⟩ = some (.int .u64 hbe) := fun w' hb => hc0 w' hb 7 _ rfl
            have S8 : ∀ w', Below wy.heap.size wy w' → w'.cell? ⟨sb, so + i * 16 + 8, none⟩ = some (.int .i64 hpr) := fun w' hb => hc0 w' hb 8 _ rfl
            have S9 : ∀ w', Below wy.heap.size wy w' → w'.cell? ⟨sb, so + i * 16 + 9, none⟩ = some (.int .i64 kh) := fun w' hb => hc0 w' hb 9 _ rfl
            have S10 : ∀ w', Below wy.heap.size wy w' → w'.cell? ⟨sb, so + i * 16 + 10, none⟩ = some (.int .i64 kr) := fun w' hb => hc0 w' hb 10 _ rfl
            have S11 : ∀ w', Below wy.heap.size wy w' → w'.cell? ⟨sb, so + i * 16 + 11, none⟩ = some (.int .i64 ks) := fun w' hb => hc0 w' hb 11 _ rfl
            have S12 : ∀ w', Below wy.heap.size wy w' → w'.cell? ⟨sb, so + i * 16 + 12, none⟩ = some (.bool khas) := fun w' hb => hc0 w' hb 12 _ rfl
            have S13 : ∀ w', Below wy.heap.size wy w' → w'.cell? ⟨sb, so + i * 16 + 13, none⟩ = some (.int .u64 kbl) := fun w' hb => hc0 w' hb 13 _ rfl
            have S14 : ∀ w', Below wy.heap.size wy w' → w'.cell? ⟨sb, so + i * 16 + 14, none⟩ = some (.slice fa fr.length fcap) := fun w' hb => hc0 w' hb 14 _ rfl
            have S15 : ∀ w', Below wy.heap.size wy w' → w'.cell? ⟨sb, so + i * 16 + 15, none⟩ = some (.slice ta tl.length tcap) := fun w' hb => hc0 w' hb 15 _ rfl
            have KA := fun (y : World) (hy : Below wy.heap.size wy y) => (Racc ⟨c, wi, ep, h, st, a, cap, l⟩ ⟨hc, hh, hpa, htx, hgu, hst, hre, hbe, hpr, kh, kr, ks, khas, kbl, fa, fcap, fr, ta, tcap, tl⟩ y (G.ok.below hy) (hsok.below hy)).mono fun e w' q => acc_res q
            have hsb2 : sb < wy.heap.size := Nat.lt_of_lt_of_le hsb1 by_.size
            have zv2 : w.heap.size < wy.heap.size := G.kv.lt
            rw [HE.out, HR.out] at KA
            have bw : Below wy.heap.size wy wy := Below.refl _ _
            have HK := show Hid (_ ∧ _ ∧ _) from ⟨kn, hnx, slx⟩
            clear G hsok hc0 HG1 HS1 HC1 HE HR kn hnx slx
            go_upto_region 28 with fail
            go_cut [17, 18] (fun yv ev wz => ev = .int .i64 E ∧ AccIn wy R yv wz)
            case first =>
              have bw0 : Below wy.heap.size wy wy.drew := bw.drew
              refine wp_region_held (S := fun w' => Below wy.heap.size wy w') (by kernel_rfl) ?_
              refine wpAnyH_take (i := 0) (v := .agg #[.int .i64 c, .int .i64 wi, .int .i64 ep, .int .i64 h, .int .u64 st, .slice a l.length cap]) rfl (by kernel_rfl) (by kernel_rfl) (by kernel_rfl) (fun _ _ _ h => h) (Or.inl ⟨by kernel_rfl, ?_⟩) (by assumption) ?_
              · intro w' hSw
                have yV0 := V0 _ hSw
                have yV1 := V1 _ hSw
                have yV2 := V2 _ hSw
                have yV3 := V3 _ hSw
                have yV4 := V4 _ hSw
                have yV5 := V5 _ hSw
                go_simp
                first | (with_reducible rfl) | done | assumption | skip
              simp only [Act.put, List.getElem_toArray, List.getElem_cons_succ, List.getElem_cons_zero, List.setIfInBounds_toArray, List.set_cons_zero, List.set_cons_succ]
              refine wpAnyH_take (i := 1) (v := ?_) rfl (by kernel_rfl) (by kernel_rfl) (by kernel_rfl) (fun _ _ _ h => h) (Or.inl ⟨by kernel_rfl, ?_⟩) (by assumption) ?_
              rotate_left
              · intro w' hSw
                go_simp
                first | (with_reducible rfl) | done | assumption | skip
              simp only [Act.put, List.getElem_toArray, List.getElem_cons_succ, List.getElem_cons_zero, List.setIfInBounds_toArray, List.set_cons_zero, List.set_cons_succ]
              refine wpAnyH_take (i := 2) (v := ?_) rfl (by kernel_rfl) (by kernel_rfl) (by kernel_rfl) (fun _ _ _ h => h) (Or.inl ⟨by kernel_rfl, ?_⟩) (by assumption) ?_
              rotate_left
              · intro w' hSw
                go_simp
                first | (with_reducible rfl) | done | assumption | skip
              simp only [Act.put, List.getElem_toArray, List.getElem_cons_succ, List.getElem_cons_zero, List.setIfInBounds_toArray, List.set_cons_zero, List.set_cons_succ]
              refine wpAnyH_take (i := 3) (v := ?_) rfl (by kernel_rfl) (by kernel_rfl) (by kernel_rfl) (fun _ _ _ h => h) (Or.inl ⟨by kernel_rfl, ?_⟩) (by assumption) ?_
              rotate_left
              · intro w' hSw
                go_simp
                first | (with_reducible rfl) | done | assumption | skip
              simp only [Act.put, List.getElem_toArray, List.getElem_cons_succ, List.getElem_cons_zero, List.setIfInBounds_toArray, List.set_cons_zero, List.set_cons_succ]
              refine wpAnyH_take (i := 4) (v := .agg #[.int .i64 hc, .int .i64 hh, .int .u64 hpa, .int .u64 htx, .int .u64 hgu, .int .u64 hst, .int .u64 hre, .int .u64 hbe, .int .i64 hpr, .int .i64 kh, .int .i64 kr, .int .i64 ks, .bool khas, .int .u64 kbl, .slice fa fr.length fcap, .slice ta tl.length tcap]) rfl (by kernel_rfl) (by kernel_rfl) (by kernel_rfl) (fun _ _ _ h => h) (Or.inl ⟨by kernel_rfl, ?_⟩) (by assumption) ?_
              · intro w' hSw
                have yS0 := S0 _ hSw
                have yS1 := S1 _ hSw
                have yS2 := S2 _ hSw
                have yS3 := S3 _ hSw
                have yS4 := S4 _ hSw
                have yS5 := S5 _ hSw
                have yS6 := S6 _ hSw
                have yS7 := S7 _ hSw
                have yS8 := S8 _ hSw
                have yS9 := S9 _ hSw
                have yS10 := S10 _ hSw
                have yS11 := S11 _ hSw
                have yS12 := S12 _ hSw
                have yS13 := S13 _ hSw
                have yS14 := S14 _ hSw
                have yS15 := S15 _ hSw
                go_simp
                first | (with_reducible rfl) | done | assumption | skip
              simp only [Act.put, List.getElem_toArray, List.getElem_cons_succ, List.getElem_cons_zero, List.setIfInBounds_toArray, List.set_cons_zero, List.set_cons_succ]
              clear V0 V1 V2 V3 V4 V5 S0 S1 S2 S3 S4 S5 S6 S7 S8 S9 S10 S11 S12 S13 S14 S15
              refine wpAnyH_ready (rs := [5, 9]) (by kernel_rfl) (by simp) ?_
              refine AllReadyH.cons rfl (fun K hK => ?_) (AllReadyH.cons rfl (fun K hK => ?_) AllReadyH.nil)
              · go_simp
                refine (KA _ (by assumption)).mono ?_
                rintro e w3 ⟨⟨qc, qwi, qep, qh, qst, qa, qcap, ql⟩, rfl, hnx, slx, frx, b3⟩
                have hNext : Below wy.heap.size wy w3 := Below.trans bw0 (b3.mono (Below.size bw0))
                refine hK.out _ _ hNext (fun _ => ?_)
                clear hK K
                try simp only [Act.put, List.getElem_toArray, List.getElem_cons_succ, List.getElem_cons_zero, List.setIfInBounds_toArray, List.set_cons_zero, List.set_cons_succ]
                refine wpAnyH_take (i := 6) (v := ?_) rfl (by kernel_rfl) (by kernel_rfl) (by kernel_rfl) (fun _ _ _ h => h) (Or.inl ⟨by kernel_rfl, ?_⟩) (by assumption) ?_
                rotate_left
                · intro w' hSw
                  go_simp
                  first | (with_reducible rfl) | done | assumption | skip
                simp only [Act.put, List.getElem_toArray, List.getElem_cons_succ, List.getElem_cons_zero, List.setIfInBounds_toArray, List.set_cons_zero, List.set_cons_succ]
                refine wpAnyH_take (i := 7) (v := ?_) rfl (by kernel_rfl) (by kernel_rfl) (by kernel_rfl) (fun _ _ _ h => h) (Or.inl ⟨by kernel_rfl, ?_⟩) (by assumption) ?_
                rotate_left
                · intro w' hSw
                  go_simp
                  first | (with_reducible rfl) | done | assumption | skip
                simp only [Act.put, List.getElem_toArray, List.getElem_cons_succ, List.getElem_cons_zero, List.setIfInBounds_toArray, List.set_cons_zero, List.set_cons_succ]
                refine wpAnyH_take (i := 8) (v := ?_) rfl (by kernel_rfl) (by kernel_rfl) (by kernel_rfl) (fun _ _ _ h => h) (Or.inl ⟨by kernel_rfl, ?_⟩) (by assumption) ?_
                rotate_left
                · intro w' hSw
                  go_simp
                  first | (with_reducible rfl) | done | assumption | skip
                simp only [Act.put, List.getElem_toArray, List.getElem_cons_succ, List.getElem_cons_zero, List.setIfInBounds_toArray, List.set_cons_zero, List.set_cons_succ]
                refine wpAnyH_ready (rs := [9]) (by kernel_rfl) (by simp) ?_
                refine AllReadyH.cons rfl (fun K hK => ?_) AllReadyH.nil
                go_simp
                refine hK.out _ _ (bel_al hNext _) (fun _ => ?_)
                clear hK K
                try simp only [Act.put, List.getElem_toArray, List.getElem_cons_succ, List.getElem_cons_zero, List.setIfInBounds_toArray, List.set_cons_zero, List.set_cons_succ]
                refine wpAnyH_ready (rs := [10]) (by kernel_rfl) (by simp) ?_
                refine AllReadyH.cons rfl (fun K hK => ?_) AllReadyH.nil
                go_simp
                refine hK.out _ _ (bel_al hNext _) (fun _ => ?_)
                clear hK K
                try simp only [Act.put, List.getElem_toArray, List.getElem_cons_succ, List.getElem_cons_zero, List.setIfInBounds_toArray, List.set_cons_zero, List.set_cons_succ]
                refine wpAnyH_take (i := 11) (v := ?_) rfl (by kernel_rfl) (by kernel_rfl) (by kernel_rfl) (fun _ _ _ h => h) (Or.inl ⟨by kernel_rfl, ?_⟩) (by assumption) ?_
                rotate_left
                · intro w' hSw
                  go_simp
                  first | (with_reducible rfl) | done | assumption | skip
                simp only [Act.put, List.getElem_toArray, List.getElem_cons_succ, List.getElem_cons_zero, List.setIfInBounds_toArray, List.set_cons_zero, List.set_cons_succ]
                refine wpAnyH_done (by kernel_rfl) ?_ _
                go_wp2_with fail
                go_meet
                case rel => exact ⟨rfl, AccIn.late (vx := ⟨qc, qwi, qep, qh, qst, qa, qcap, ql⟩) hnx slx hNext⟩
              · go_simp
                have bw1 := bel_al bw0 (.cells #[.int .i64 0, .int .i64 0, .int .i64 0, .int .i64 0, .int .u64 0, .slice none 0 0] 26)
                refine hK.out _ _ bw1 (fun _ => ?_)
                clear hK K
                try simp only [Act.put, List.getElem_toArray, List.getElem_cons_succ, List.getElem_cons_zero, List.setIfInBounds_toArray, List.set_cons_zero, List.set_cons_succ]
                refine wpAnyH_ready (rs := [5]) (by kernel_rfl) (by simp) ?_
                refine AllReadyH.cons rfl (fun K hK => ?_) AllReadyH.nil
                go_simp
                refine (KA _ (by assumption)).mono ?_
                rintro e w3 ⟨⟨qc, qwi, qep, qh, qst, qa, qcap, ql⟩, rfl, hnx, slx, frx, b3⟩
                have hNext : Below wy.heap.size wy w3 := Below.trans bw1 (b3.mono (Below.size bw1))
                have ow := own2 b3
                have oc0 := (ow.cell 0).trans rfl
                have of0 := ow.frozen 0
                have oc1 := (ow.cell 1).trans rfl
                have of1 := ow.frozen 1
                have oc2 := (ow.cell 2).trans rfl
                have of2 := ow.frozen 2
                have oc3 := (ow.cell 3).trans rfl
                have of3 := ow.frozen 3
                have oc4 := (ow.cell 4).trans rfl
                have of4 := ow.frozen 4
                have oc5 := (ow.cell 5).trans rfl
                have of5 := ow.frozen 5
                have ol := ow.lt
                refine hK.out _ _ hNext (fun _ => ?_)
                clear hK K
                try simp only [Act.put, List.getElem_toArray, List.getElem_cons_succ, List.getElem_cons_zero, List.setIfInBounds_toArray, List.set_cons_zero, List.set_cons_succ]
                refine wpAnyH_take (i := 6) (v := ?_) rfl (by kernel_rfl) (by kernel_rfl) (by kernel_rfl) (fun _ _ _ h => h) (Or.inl ⟨by kernel_rfl, ?_⟩) (by assumption) ?_
                rotate_left
                · intro w' hSw
                  go_simp
                  first | (with_reducible rfl) | done | assumption | skip
                simp only [Act.put, List.getElem_toArray, List.getElem_cons_succ, List.getElem_cons_zero, List.setIfInBounds_toArray, List.set_cons_zero, List.set_cons_succ]
                refine wpAnyH_take (i := 7) (v := ?_) rfl (by kernel_rfl) (by kernel_rfl) (by kernel_rfl) (fun _ _ _ h => h) (Or.inl ⟨by kernel_rfl, ?_⟩) (by assumption) ?_
                rotate_left
                · intro w' hSw
                  go_simp
                  first | (with_reducible rfl) | done | assumption | skip
                simp only [Act.put, List.getElem_toArray, List.getElem_cons_succ, List.getElem_cons_zero, List.setIfInBounds_toArray, List.set_cons_zero, List.set_cons_succ]
                refine wpAnyH_take (i := 8) (v := ?_) rfl (by kernel_rfl) (by kernel_rfl) (by kernel_rfl) (fun _ _ _ h => h) (Or.inl ⟨by kernel_rfl, ?_⟩) (by assumption) ?_
                rotate_left
                · intro w' hSw
                  go_simp
                  first | (with_reducible rfl) | done | assumption | skip
                simp only [Act.put, List.getElem_toArray, List.getElem_cons_succ, List.getElem_cons_zero, List.setIfInBounds_toArray, List.set_cons_zero, List.set_cons_succ]
                refine wpAnyH_ready (rs := [10]) (by kernel_rfl) (by simp) ?_
                refine AllReadyH.cons rfl (fun K hK => ?_) AllReadyH.nil
                go_simp
                refine hK.out _ _ (bel_st (bel_st (bel_st (bel_st (bel_st (bel_st hNext (Nat.le_refl _) _) (Nat.le_refl _) _) (Nat.le_refl _) _) (Nat.le_refl _) _) (Nat.le_refl _) _) (Nat.le_refl _) _) (fun _ => ?_)
                clear hK K
                try simp only [Act.put, List.getElem_toArray, List.getElem_cons_succ, List.getElem_cons_zero, List.setIfInBounds_toArray, List.set_cons_zero, List.set_cons_succ]
                refine wpAnyH_take (i := 11) (v := ?_) rfl (by kernel_rfl) (by kernel_rfl) (by kernel_rfl) (fun _ _ _ h => h) (Or.inl ⟨by kernel_rfl, ?_⟩) (by assumption) ?_
                rotate_left
                · intro w' hSw
                  go_simp
                  first | (with_reducible rfl) | done | assumption | skip
                simp only [Act.put, List.getElem_toArray, List.getElem_cons_succ, List.getElem_cons_zero, List.setIfInBounds_toArray, List.set_cons_zero, List.set_cons_succ]
                refine wpAnyH_done (by kernel_rfl) ?_ _
                go_wp2_with fail
                go_meet
                case rel => exact ⟨rfl, AccIn.early (vx := ⟨qc, qwi, qep, qh, qst, qa, qcap, ql⟩) hnx slx (fun a ha => by have := frx a ha; simpa using this) hNext ow⟩
            case rest =>
              obtain ⟨rfl, mb, vy, rfl, hmb, km, hny, sly, bz⟩ := hcut
              generalize wc = wz at *
              clear V0 V1 V2 V3 V4 V5 S0 S1 S2 S3 S4 S5 S6 S7 S8 S9 S10 S11 S12 S13 S14 S15 KA bw
              obtain ⟨kn, hnx, slx⟩ := HK.out
              have kn2 := kn.below bz kn.lt
              have slx2 := slx.below bz
              have hyy := norm_eq (hnx.trans hny.symm)
              obtain ⟨c2, wi2, ep2, h2, st2, a2, cap2, l2⟩ := vx
              obtain ⟨a3, cap3, hvy⟩ : ∃ a3 cap3, vy = ⟨c2, wi2, ep2, h2, st2, a3, cap3, l2⟩ := ⟨_, _, hyy⟩
              subst hvy
              have hf2 : l2.length ≤ 1000000 := HF2.out _ hny
              have x0 := (kn2.cell 0).trans rfl
              have x1 := (kn2.cell 1).trans rfl
              have x2 := (kn2.cell 2).trans rfl
              have x3 := (kn2.cell 3).trans rfl
              have x4 := (kn2.cell 4).trans rfl
              have x5 := (kn2.cell 5).trans rfl
              have y0 := (km.cell 0).trans rfl
              have y1 := (km.cell 1).trans rfl
              have y2 := (km.cell 2).trans rfl
              have y3 := (km.cell 3).trans rfl
              have y4 := (km.cell 4).trans rfl
              have y5 := (km.cell 5).trans rfl
              have zn2 := kn2.lt
              have zm := km.lt
              have hd : (E != E) = false := by simp
              clear hyy hnx hny kn kn2 km slx
              go_wp2_with fail
              refine (sameView_eq c2 wi2 ep2 h2 st2 a2 a3 cap2 cap3 l2 wz hf2 slx2.at_ sly.at_).mono ?_
              rintro e w5 ⟨rfl, b5⟩
              have hb := HBB.out
              have B2 := hb.trans (bx.mono hb.size)
              have B3 := B2.trans (by_.mono B2.size)
              have B4 := B3.trans (bz.mono B3.size)
              have B5 := B4.trans (b5.mono B4.size)
              go_wp2
              exact ⟨⟨i + 1, by omega, by go_num, B5⟩, by simp [intOf]; omega⟩
      · have hge : ¬ (i : Int) < (ls.length : Int) := by omega
        go_wp2_with fail
        go_meet
        case rel => exact hb

end Go.Proofs.YtblnlfcfjbfhiaaGreat
