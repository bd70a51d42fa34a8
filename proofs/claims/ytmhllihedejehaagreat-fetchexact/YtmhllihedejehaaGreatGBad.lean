/- The answer's Give: a node that is refused. -/
import Derived.Test.YtmhllihedejehaaGreatM31
import Derived.Test.YtmhllihedejehaaGreatGPre
namespace Go.Proofs.YtmhllihedejehaaGreat
open Go.RowKit
set_option linter.unusedVariables false
set_option linter.unusedSimpArgs false

set_option maxRecDepth 20000 in
set_option maxHeartbeats 6400000 in
theorem gbad9 (w0 w : World) (base gb nb : Nat) (wd root x d du : Int) (ok : Bool) (way : Key) (A B : List (Key × Int)) (o : Option Tr) (sb : List Int) (vL vB : Value) (li : Option Addr) (ci : Nat) (hbl : sb.length < 1000000) (hL : (A ++ (way, d) :: B).length ≤ 1000000)
    (H : RFet w base gb wd root (A ++ (way, d) :: B) o sb vL vB li ci) (hi : ItemsAt w li (itemsO o)) (hc : (itemsO o).length ≤ ci) (hok : (ok && (du == d)) = false) (O0 : Only gb w0 w) (c3 c4 c5 c6 c8 c9 c13 c14 c15 c16 c17 c18 c19 c20 c21 c22 c23 c24 c25 c26 c27 c28 c29 c30 c31 c32 c33 c34 c35 c36 c37 c38 c39 c40 c41 c42 c43 c44 c45 c46 c47 c48 c49 c50 c51 c52 c53 c54 c55 c56 c57 c58 c59 c60 c61 c62 c63 c64 c65 c66 c67 c68 c69 c70 c71 c72 c73 c74 c75 c76 c77 c78 c79 c80 c81 c82 c83 c84 c85 c86 c87 c88 c89 c90 c91 c92 c93 c94 c95 c96 c97 c98 c99 c100 c101 c102 c103 c104 c105 c106 c107 c108 c109 c110 c111 c112 c113 c114 c115 c116 c117 c118 c119 c120 c121 c122 c123 c124 c125 c126 c127 c128 c129 c130 c131 c132 c133 c134 c135 c136 c137 c138 c139 c140 c141 c142 c143 c144 c145 c146 c147 c148 c149 c150 c151 c152 c153 c154 c155 c156 c157 c158 c159 c160 c161 c162 c163 c164 c165 c166 c167 c168 c169 c170 c171 c172 c173 c174 c175 c176 c177 c178 c179 c180 : Value) :
    Code.wp Tryz.prog (dropSeqG 9 (Tryz.f15.body.getD .skip)) (bodyPost Tryz.prog Tryz.f15 (fun e w' => RGave w0 gb wd root (A ++ (way, d) :: B) o (insR x sb) 5 e w')) ⟨#[.pointer (some ⟨gb, 0, none⟩), .int .i64 x, .string (str way), c3, c4, c5, c6, .pointer (some ⟨nb, 0, none⟩), c8, c9, .int .i64 (A.length : Int), .bool ok, .int .u64 du, c13, c14, c15, c16, c17, c18, c19, c20, c21, c22, c23, c24, c25, c26, c27, c28, c29, c30, c31, c32, c33, c34, c35, c36, c37, c38, c39, c40, c41, c42, c43, c44, c45, c46, c47, c48, c49, c50, c51, c52, c53, c54, c55, c56, c57, c58, c59, c60, c61, c62, c63, c64, c65, c66, c67, c68, c69, c70, c71, c72, c73, c74, c75, c76, c77, c78, c79, c80, c81, c82, c83, c84, c85, c86, c87, c88, c89, c90, c91, c92, c93, c94, c95, c96, c97, c98, c99, c100, c101, c102, c103, c104, c105, c106, c107, c108, c109, c110, c111, c112, c113, c114, c115, c116, c117, c118, c119, c120, c121, c122, c123, c124, c125, c126, c127, c128, c129, c130, c131, c132, c133, c134, c135, c136, c137, c138, c139, c140, c141, c142, c143, c144, c145, c146, c147, c148, c149, c150, c151, c152, c153, c154, c155, c156, c157, c158, c159, c160, c161, c162, c163, c164, c165, c166, c167, c168, c169, c170, c171, c172, c173, c174, c175, c176, c177, c178, c179, c180], []⟩ w := by
  conv => arg 2; whnf
  conv => arg 4; dsimp only
  have HH : Hid (RFet w base gb wd root (A ++ (way, d) :: B) o sb vL vB li ci ∧ ItemsAt w li (itemsO o) ∧ (itemsO o).length ≤ ci ∧ Only gb w0 w) := ⟨H, hi, hc, O0⟩
  have c2 := (H.k.cell 2).trans rfl
  have c5 := (H.k.cell 5).trans rfl
  have zf := H.k.lt
  have hlen : (A ++ (way, d) :: B).length = A.length + (B.length + 1) := by simp
  have hal : (A.length : Int) < ((A ++ (way, d) :: B).length : Int) := by omega
  obtain ⟨sa, sc, rfl, hcb⟩ := row_at H.wb
  obtain ⟨la, lc, rfl, hcl⟩ := row_at H.wl
  obtain ⟨gl, e1, zl, acl⟩ := hcl (by omega)
  subst e1
  have al := acl _ _ (flatW_get (A ++ (way, d) :: B) A.length (by omega)).2
  have HB : Hid (belowR x sb ≤ sb.length) := belowR_le x sb
  have HC : Hid (sb.length ≤ sc) := row_cap H.wb
  rw [show (A ++ (way, d) :: B)[A.length].2 = d by simp] at al
  have GG : ∀ {w'} (h : Below w.heap.size w w') (k : Nat), CellsF w' sa (flatI (sb.take k)) := fun h k => by rw [← flatI_take]; exact ((CellsF.of_row H.wb).below h).take k
  have GD : ∀ {w'} (h : Below w.heap.size w w') (k : Nat), CellsF w' (if sc = k then sa else sa.map (fun a => a.add (k * 1))) (flatI (sb.drop k)) := fun h k => by
    have := CellsF.part (cap := sc) (k := k) (size := 1) (by decide) ((CellsF.of_row H.wb).below h) (by rw [flatI_len, Nat.mul_one]; exact row_cap H.wb)
    rw [Nat.mul_one, flatI_drop] at this
    rw [Nat.mul_one]
    exact this
  generalize (A ++ (way, d) :: B).length = LL at *
  clear H hi hc O0 hcl acl hlen
  cases ok with
  | false =>
    clear hok al
    go_upto_block 2 with fail
    go_cut [13] (fun iv wx => iv = .int .i64 (belowR x sb : Int) ∧ w = wx)
    case first =>
      go_wp2_with fail
      go_loopw [13] (fun iv wv => ∃ i : Nat, i ≤ belowR x sb ∧ iv = .int .i64 i ∧ w = wv) (fun iv _ => belowR x sb - (intOf iv).toNat)
      case atStart => exact ⟨0, Nat.zero_le _, rfl, rfl⟩
      case round =>
        obtain ⟨i, hi1, rfl, rfl⟩ := hrel
        by_cases hlt : i < sb.length
        · have hlt' : (i : Int) < (sb.length : Int) := by omega
          obtain ⟨g, e1, zg, ac⟩ := hcb (by omega)
          subst e1
          have a1 := ac _ _ (flatI_get sb i hlt)
          clear ac hcb
          by_cases hib : i < belowR x sb
          · have hs := belowR_lt x sb i hlt hib
            generalize sb[i] = y at *
            clear HB
            go_wp2
            exact ⟨⟨i + 1, by omega, by go_num, trivial⟩, by simp [intOf]; omega⟩
          · have ei : i = belowR x sb := by omega
            have hs : ¬ sb[i] < x := by
              subst ei
              exact belowR_at x sb hlt
            have HE : Hid ((i : Int) = (belowR x sb : Int)) := by show _ = _; rw [ei]
            generalize sb[i] = y at *
            have hd : decide (y < x) = false := by simpa using hs
            clear HB ei hib hi1
            go_wp2_with fail
            go_meet
            case rel => exact ⟨by rw [HE.out], rfl⟩
        · have hge : ¬ (i : Int) < (sb.length : Int) := by omega
          have HE : Hid ((i : Int) = (belowR x sb : Int)) := by show _ = _; have := HB.out; omega
          have hd : decide ((i : Int) < (sb.length : Int)) = false := by simpa using hge
          clear HB hi1
          go_wp2_with fail
          go_meet
          case rel => exact ⟨by rw [HE.out], rfl⟩
    case rest =>
      obtain ⟨rfl, rfl⟩ := hcut
      have hbs := HB.out
      have hcap := HC.out
      generalize hbk : belowR x sb = bk at *
      have HE : Hid (insR x sb = sb.take bk ++ x :: sb.drop bk) := by show _ = _; rw [← hbk]; exact insR_eq x sb
      clear hbk hcb HB
      have hsz0 : w.heap.size ≤ w.heap.size := Nat.le_refl _
      have b0 : Below w.heap.size w (w.alloc (.cells #[] 3)) := (Below.refl _ _).alloc (Nat.le_refl _) _
      have c5b := b0.cell (p := ⟨gb, 5, none⟩) zf
      rw [c5] at c5b
      have zf0 := Nat.lt_of_lt_of_le zf b0.size
      have hbc : (bk : Int) ≤ (sc : Int) := by omega
      have ho0 : (w.alloc (.cells #[] 3)).ownsRow w.heap.size 3 1 _ 0 [] := World.ownsRow_made w #[] 0 hsz0 (Nat.zero_le _) rfl
      go_upto_region 20 with (at_builtin; refine wpList_app_row rfl _ _ 51 rfl rfl _ _ _ _ rfl rfl w.heap.size 3 (.int .i64 0) 1 8 Tryz.underlying51 infoIntG rfl (by decide) 0 [] (flatI (sb.take bk)) ho0 (by rw [flatI_len, List.length_take]; simp; omega) (GG b0 bk) (flatI_one _) (by omega) (by omega) b0.size ?_; intro v1 w1 ho1 hg1)
      have b1 : Below w.heap.size w w1 := b0.grown hg1 b0.size (fun k e => (ho0.lt k e).1)
      simp only [List.nil_append, Nat.zero_add] at ho1
      have ho1a := ho1.alloc (.cells #[.int .i64 x] 3)
      have kx := Blk.new w1 #[.int .i64 x] 3
      have b1a : Below w.heap.size w (w1.alloc (.cells #[.int .i64 x] 3)) := b1.alloc b1.size _
      clear ho0 hg1 b0 c5b zf0 c5
      go_upto_region 21 with (at_builtin; refine wpList_app_row rfl _ _ 51 rfl rfl _ _ _ _ rfl rfl w.heap.size 3 (.int .i64 0) 1 8 Tryz.underlying51 infoIntG rfl (by decide) bk (flatI (sb.take bk)) [.int .i64 x] ho1a rfl (CellsF.blk kx) (fun u hu => by simp at hu; subst hu; rfl) (by omega) (by omega) b1a.size ?_; intro v2 w2 ho2 hg2)
      have b2 : Below w.heap.size w w2 := b1a.grown hg2 b1a.size (fun k e => (ho1.lt k e).1)
      clear ho1a kx b1a hg2 ho1 b1
      have H2 := HH.out.1.below b2
      have c5 := (H2.k.cell 5).trans rfl
      have f5 := H2.k.frozen 5
      have zf := H2.k.lt
      have hbl2 : (bk : Int) ≤ (sb.length : Int) := by omega
      have hm3 : (flatI (sb.drop bk)).length = (sb.length - bk) * 1 := by rw [flatI_len, List.length_drop]; omega
      have GD2 := GD b2 bk
      have hsz2 := b2.size
      clear H2 GG GD
      simp only [Nat.mul_one] at GD2
      go_upto_region 22 with (at_builtin; refine wpList_app_row rfl _ _ 51 rfl rfl _ _ _ _ rfl rfl w.heap.size 3 (.int .i64 0) 1 8 Tryz.underlying51 infoIntG rfl (by decide) (bk + 1) (flatI (sb.take bk) ++ [.int .i64 x]) (flatI (sb.drop bk)) ?_ ?_ ?_ (flatI_one _) (by omega) (by omega) hsz2 ?_; exact ho2; exact hm3; exact GD2; intro v3 w3 ho3 hg3; obtain ⟨s3, q3, rfl⟩ := slice_of ho3; have b3 : Below w.heap.size w w3 := Below.grown b2 hg3 b2.size (fun k e => (ho2.lt k e).1); have k3 := (HH.out.1.below b3).k; have c5 := (k3.cell 5).trans rfl; have f5 := k3.frozen 5; have zf := k3.lt)
      have HR : Hid (RSt (w3.setCell ⟨gb, 5, none⟩ (.slice s3 (bk + 1 + (sb.length - bk)) q3)) gb wd root (A ++ (way, d) :: B) o (insR x sb) ∧ Only gb w0 (w3.setCell ⟨gb, 5, none⟩ (.slice s3 (bk + 1 + (sb.length - bk)) q3))) := by
        obtain ⟨h1, h2, h3, h4⟩ := HH.out
        have h1' := h1.below b3
        have hro : w3.ownsRow w.heap.size 3 1 (.slice s3 (bk + 1 + (sb.length - bk)) q3) (insR x sb).length (flatI (insR x sb)) := by
          rw [HE.out]
          have e1 : (sb.take bk ++ x :: sb.drop bk).length = bk + 1 + (sb.length - bk) := by simp; omega
          rw [e1]
          have e2 : flatI (sb.take bk ++ x :: sb.drop bk) = flatI (sb.take bk) ++ [.int .i64 x] ++ flatI (sb.drop bk) := by simp [flatI]
          rw [e2]
          exact ho3
        exact ⟨⟨0, _, _, li, ci, h1'.setB hro, h1'.its (h2.below b3) _ _, h3⟩, (h4.trans (Only.of_below b3)).set 5 _⟩
      clear ho3 hg3 k3 c5 f5 b3 HH
      go_wp2
      all_goals
        go_ret
        exact ⟨rfl, HR.out.1, HR.out.2⟩
  | true =>
    have hdd : (du != d) = true := by simpa using hok
    clear hok
    go_upto_block 2 with fail
    go_cut [13] (fun iv wx => iv = .int .i64 (belowR x sb : Int) ∧ w = wx)
    case first =>
      go_wp2_with fail
      go_loopw [13] (fun iv wv => ∃ i : Nat, i ≤ belowR x sb ∧ iv = .int .i64 i ∧ w = wv) (fun iv _ => belowR x sb - (intOf iv).toNat)
      case atStart => exact ⟨0, Nat.zero_le _, rfl, rfl⟩
      case round =>
        obtain ⟨i, hi1, rfl, rfl⟩ := hrel
        by_cases hlt : i < sb.length
        · have hlt' : (i : Int) < (sb.length : Int) := by omega
          obtain ⟨g, e1, zg, ac⟩ := hcb (by omega)
          subst e1
          have a1 := ac _ _ (flatI_get sb i hlt)
          clear ac hcb
          by_cases hib : i < belowR x sb
          · have hs := belowR_lt x sb i hlt hib
            generalize sb[i] = y at *
            clear HB
            go_wp2
            exact ⟨⟨i + 1, by omega, by go_num, trivial⟩, by simp [intOf]; omega⟩
          · have ei : i = belowR x sb := by omega
            have hs : ¬ sb[i] < x := by
              subst ei
              exact belowR_at x sb hlt
            have HE : Hid ((i : Int) = (belowR x sb : Int)) := by show _ = _; rw [ei]
            generalize sb[i] = y at *
            have hd : decide (y < x) = false := by simpa using hs
            clear HB ei hib hi1
            go_wp2_with fail
            go_meet
            case rel => exact ⟨by rw [HE.out], rfl⟩
        · have hge : ¬ (i : Int) < (sb.length : Int) := by omega
          have HE : Hid ((i : Int) = (belowR x sb : Int)) := by show _ = _; have := HB.out; omega
          have hd : decide ((i : Int) < (sb.length : Int)) = false := by simpa using hge
          clear HB hi1
          go_wp2_with fail
          go_meet
          case rel => exact ⟨by rw [HE.out], rfl⟩
    case rest =>
      obtain ⟨rfl, rfl⟩ := hcut
      have hbs := HB.out
      have hcap := HC.out
      generalize hbk : belowR x sb = bk at *
      have HE : Hid (insR x sb = sb.take bk ++ x :: sb.drop bk) := by show _ = _; rw [← hbk]; exact insR_eq x sb
      clear hbk hcb HB
      have hsz0 : w.heap.size ≤ w.heap.size := Nat.le_refl _
      have b0 : Below w.heap.size w (w.alloc (.cells #[] 3)) := (Below.refl _ _).alloc (Nat.le_refl _) _
      have c5b := b0.cell (p := ⟨gb, 5, none⟩) zf
      rw [c5] at c5b
      have zf0 := Nat.lt_of_lt_of_le zf b0.size
      have hbc : (bk : Int) ≤ (sc : Int) := by omega
      have ho0 : (w.alloc (.cells #[] 3)).ownsRow w.heap.size 3 1 _ 0 [] := World.ownsRow_made w #[] 0 hsz0 (Nat.zero_le _) rfl
      go_upto_region 20 with (at_builtin; refine wpList_app_row rfl _ _ 51 rfl rfl _ _ _ _ rfl rfl w.heap.size 3 (.int .i64 0) 1 8 Tryz.underlying51 infoIntG rfl (by decide) 0 [] (flatI (sb.take bk)) ho0 (by rw [flatI_len, List.length_take]; simp; omega) (GG b0 bk) (flatI_one _) (by omega) (by omega) b0.size ?_; intro v1 w1 ho1 hg1)
      have b1 : Below w.heap.size w w1 := b0.grown hg1 b0.size (fun k e => (ho0.lt k e).1)
      simp only [List.nil_append, Nat.zero_add] at ho1
      have ho1a := ho1.alloc (.cells #[.int .i64 x] 3)
      have kx := Blk.new w1 #[.int .i64 x] 3
      have b1a : Below w.heap.size w (w1.alloc (.cells #[.int .i64 x] 3)) := b1.alloc b1.size _
      clear ho0 hg1 b0 c5b zf0 c5
      go_upto_region 21 with (at_builtin; refine wpList_app_row rfl _ _ 51 rfl rfl _ _ _ _ rfl rfl w.heap.size 3 (.int .i64 0) 1 8 Tryz.underlying51 infoIntG rfl (by decide) bk (flatI (sb.take bk)) [.int .i64 x] ho1a rfl (CellsF.blk kx) (fun u hu => by simp at hu; subst hu; rfl) (by omega) (by omega) b1a.size ?_; intro v2 w2 ho2 hg2)
      have b2 : Below w.heap.size w w2 := b1a.grown hg2 b1a.size (fun k e => (ho1.lt k e).1)
      clear ho1a kx b1a hg2 ho1 b1
      have H2 := HH.out.1.below b2
      have c5 := (H2.k.cell 5).trans rfl
      have f5 := H2.k.frozen 5
      have zf := H2.k.lt
      have hbl2 : (bk : Int) ≤ (sb.length : Int) := by omega
      have hm3 : (flatI (sb.drop bk)).length = (sb.length - bk) * 1 := by rw [flatI_len, List.length_drop]; omega
      have GD2 := GD b2 bk
      have hsz2 := b2.size
      clear H2 GG GD
      simp only [Nat.mul_one] at GD2
      go_upto_region 22 with (at_builtin; refine wpList_app_row rfl _ _ 51 rfl rfl _ _ _ _ rfl rfl w.heap.size 3 (.int .i64 0) 1 8 Tryz.underlying51 infoIntG rfl (by decide) (bk + 1) (flatI (sb.take bk) ++ [.int .i64 x]) (flatI (sb.drop bk)) ?_ ?_ ?_ (flatI_one _) (by omega) (by omega) hsz2 ?_; exact ho2; exact hm3; exact GD2; intro v3 w3 ho3 hg3; obtain ⟨s3, q3, rfl⟩ := slice_of ho3; have b3 : Below w.heap.size w w3 := Below.grown b2 hg3 b2.size (fun k e => (ho2.lt k e).1); have k3 := (HH.out.1.below b3).k; have c5 := (k3.cell 5).trans rfl; have f5 := k3.frozen 5; have zf := k3.lt)
      have HR : Hid (RSt (w3.setCell ⟨gb, 5, none⟩ (.slice s3 (bk + 1 + (sb.length - bk)) q3)) gb wd root (A ++ (way, d) :: B) o (insR x sb) ∧ Only gb w0 (w3.setCell ⟨gb, 5, none⟩ (.slice s3 (bk + 1 + (sb.length - bk)) q3))) := by
        obtain ⟨h1, h2, h3, h4⟩ := HH.out
        have h1' := h1.below b3
        have hro : w3.ownsRow w.heap.size 3 1 (.slice s3 (bk + 1 + (sb.length - bk)) q3) (insR x sb).length (flatI (insR x sb)) := by
          rw [HE.out]
          have e1 : (sb.take bk ++ x :: sb.drop bk).length = bk + 1 + (sb.length - bk) := by simp; omega
          rw [e1]
          have e2 : flatI (sb.take bk ++ x :: sb.drop bk) = flatI (sb.take bk) ++ [.int .i64 x] ++ flatI (sb.drop bk) := by simp [flatI]
          rw [e2]
          exact ho3
        exact ⟨⟨0, _, _, li, ci, h1'.setB hro, h1'.its (h2.below b3) _ _, h3⟩, (h4.trans (Only.of_below b3)).set 5 _⟩
      clear ho3 hg3 k3 c5 f5 b3 HH
      go_wp2
      all_goals
        go_ret
        exact ⟨rfl, HR.out.1, HR.out.2⟩

section
variable {gb : Nat} {wd root : Int} {o : Option Tr} {sb : List Int}
theorem rgives_bad (x k pos l r d : Int) (way key val : Key) (A B : List (Key × Int)) (w : World) (hb : sb.length < 1000000) (hL : (A ++ (way, d) :: B).length ≤ 1000000) (hwd : okW wd) (hk : key.length ≤ maxLen) (hv : val.length ≤ maxLen) (hpp : -9223372036854775808 ≤ pos ∧ pos ≤ 9223372036854775807) (hl : 0 ≤ l ∧ l ≤ 18446744073709551615) (hr : 0 ≤ r ∧ r ≤ 18446744073709551615)
    (H : RSt w gb wd root (A ++ (way, d) :: B) o sb) (hx : ¬ x ∈ sb) (hw : way ∉ A.map Prod.fst) (hok : okN wd way d k key val pos l r = false) :
    Calls Tryz.prog 15 #[.pointer (some ⟨gb, 0, none⟩), .int .i64 x, .string (str way), .agg #[.int .i64 k, .string (str key), .string (str val), .int .i64 pos, .int .u64 l, .int .u64 r]] w fun e w' => RGave w gb wd root (A ++ (way, d) :: B) o (insR x sb) 5 e w' := by
  obtain ⟨base, vL, vB, li, ci, H, hi, hc⟩ := H
  refine rgive_pre _ x k pos l r d way key val A B w (by omega) hL hwd hk hv hpp hl hr H hx hw ?_
  intro nb c3 c4 c5 c6 c8 c9 c13 c14 c15 c16 c17 c18 c19 c20 c21 c22 c23 c24 c25 c26 c27 c28 c29 c30 c31 c32 c33 c34 c35 c36 c37 c38 c39 c40 c41 c42 c43 c44 c45 c46 c47 c48 c49 c50 c51 c52 c53 c54 c55 c56 c57 c58 c59 c60 c61 c62 c63 c64 c65 c66 c67 c68 c69 c70 c71 c72 c73 c74 c75 c76 c77 c78 c79 c80 c81 c82 c83 c84 c85 c86 c87 c88 c89 c90 c91 c92 c93 c94 c95 c96 c97 c98 c99 c100 c101 c102 c103 c104 c105 c106 c107 c108 c109 c110 c111 c112 c113 c114 c115 c116 c117 c118 c119 c120 c121 c122 c123 c124 c125 c126 c127 c128 c129 c130 c131 c132 c133 c134 c135 c136 c137 c138 c139 c140 c141 c142 c143 c144 c145 c146 c147 c148 c149 c150 c151 c152 c153 c154 c155 c156 c157 c158 c159 c160 c161 c162 c163 c164 c165 c166 c167 c168 c169 c170 c171 c172 c173 c174 c175 c176 c177 c178 c179 c180 w1 b1 hnb kn
  rw [okN_due] at hok
  exact gbad9 w w1 base gb nb wd root x d _ _ way A B o sb vL vB li ci hb hL (H.below b1) (hi.below b1) hc hok (Only.of_below b1) _ _ _ _ _ _ _ _ _ _ _ _ _ _ _ _ _ _ _ _ _ _ _ _ _ _ _ _ _ _ _ _ _ _ _ _ _ _ _ _ _ _ _ _ _ _ _ _ _ _ _ _ _ _ _ _ _ _ _ _ _ _ _ _ _ _ _ _ _ _ _ _ _ _ _ _ _ _ _ _ _ _ _ _ _ _ _ _ _ _ _ _ _ _ _ _ _ _ _ _ _ _ _ _ _ _ _ _ _ _ _ _ _ _ _ _ _ _ _ _ _ _ _ _ _ _ _ _ _ _ _ _ _ _ _ _ _ _ _ _ _ _ _ _ _ _ _ _ _ _ _ _ _ _ _ _ _ _ _ _ _ _ _ _ _ _ _ _ _ _ _ _ _ _
end
end Go.Proofs.YtmhllihedejehaaGreat
