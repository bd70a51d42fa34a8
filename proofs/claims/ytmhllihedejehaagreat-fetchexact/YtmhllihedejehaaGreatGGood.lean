/- The answer's Give: a node that is taken. -/
import Derived.Test.YtmhllihedejehaaGreatM31
import Derived.Test.YtmhllihedejehaaGreatGPre
import Derived.Test.YtmhllihedejehaaGreatZRPut
import Derived.Test.YtmhllihedejehaaGreatM18
namespace Go.Proofs.YtmhllihedejehaaGreat
open Go.RowKit
set_option linter.unusedVariables false
set_option linter.unusedSimpArgs false

theorem str_endG (s : Key) (x : UInt8) : str s ++ ⟨#[x]⟩ = str (s ++ [x]) := by
  apply ByteArray.ext
  simp [str]
set_option maxRecDepth 20000 in
set_option maxHeartbeats 6400000 in
theorem ggood9_2 (w0 w : World) (base gb nb : Nat) (wd root x d pos l r : Int) (way key val : Key) (A B : List (Key × Int)) (o : Option Tr) (sb : List Int) (vL vB : Value) (li : Option Addr) (ci : Nat)
    (H : RFet w base gb wd root (A ++ (way, d) :: B) o sb vL vB li ci) (hi : ItemsAt w li (itemsO o)) (hc : (itemsO o).length ≤ ci) (hL : (A ++ (way, d) :: B).length ≤ 900000) (O0 : Only gb w0 w) (hg : Good o) (hn : (itemsO o).length ≤ 100000) (hk : key.length ≤ 32) (hv : val.length ≤ 4096) (hwl : way.length ≤ 100000)
    (kn : Blk w nb #[.int .i64 2, .string (str key), .string (str val), .int .i64 pos, .int .u64 l, .int .u64 r] 28) (c3 c4 c5 c6 c8 c9 c13 c14 c15 c16 c17 c18 c19 c20 c21 c22 c23 c24 c25 c26 c27 c28 c29 c30 c31 c32 c33 c34 c35 c36 c37 c38 c39 c40 c41 c42 c43 c44 c45 c46 c47 c48 c49 c50 c51 c52 c53 c54 c55 c56 c57 c58 c59 c60 c61 c62 c63 c64 c65 c66 c67 c68 c69 c70 c71 c72 c73 c74 c75 c76 c77 c78 c79 c80 c81 c82 c83 c84 c85 c86 c87 c88 c89 c90 c91 c92 c93 c94 c95 c96 c97 c98 c99 c100 c101 c102 c103 c104 c105 c106 c107 c108 c109 c110 c111 c112 c113 c114 c115 c116 c117 c118 c119 c120 c121 c122 c123 c124 c125 c126 c127 c128 c129 c130 c131 c132 c133 c134 c135 c136 c137 c138 c139 c140 c141 c142 c143 c144 c145 c146 c147 c148 c149 c150 c151 c152 c153 c154 c155 c156 c157 c158 c159 c160 c161 c162 c163 c164 c165 c166 c167 c168 c169 c170 c171 c172 c173 c174 c175 c176 c177 c178 c179 c180 : Value) :
    Code.wp Tryz.prog (dropSeqG 9 (Tryz.f15.body.getD .skip)) (bodyPost Tryz.prog Tryz.f15 (fun e w' => RGave w0 gb wd root (A ++ (newW way 2 l r ++ B)) (newO 2 key val o) sb 0 e w')) ⟨#[.pointer (some ⟨gb, 0, none⟩), .int .i64 x, .string (str way), c3, c4, c5, c6, .pointer (some ⟨nb, 0, none⟩), c8, c9, .int .i64 (A.length : Int), .bool true, .int .u64 d, c13, c14, c15, c16, c17, c18, c19, c20, c21, c22, c23, c24, c25, c26, c27, c28, c29, c30, c31, c32, c33, c34, c35, c36, c37, c38, c39, c40, c41, c42, c43, c44, c45, c46, c47, c48, c49, c50, c51, c52, c53, c54, c55, c56, c57, c58, c59, c60, c61, c62, c63, c64, c65, c66, c67, c68, c69, c70, c71, c72, c73, c74, c75, c76, c77, c78, c79, c80, c81, c82, c83, c84, c85, c86, c87, c88, c89, c90, c91, c92, c93, c94, c95, c96, c97, c98, c99, c100, c101, c102, c103, c104, c105, c106, c107, c108, c109, c110, c111, c112, c113, c114, c115, c116, c117, c118, c119, c120, c121, c122, c123, c124, c125, c126, c127, c128, c129, c130, c131, c132, c133, c134, c135, c136, c137, c138, c139, c140, c141, c142, c143, c144, c145, c146, c147, c148, c149, c150, c151, c152, c153, c154, c155, c156, c157, c158, c159, c160, c161, c162, c163, c164, c165, c166, c167, c168, c169, c170, c171, c172, c173, c174, c175, c176, c177, c178, c179, c180], []⟩ w := by
  conv => arg 2; whnf
  conv => arg 4; dsimp only
  have HH : Hid (RFet w base gb wd root (A ++ (way, d) :: B) o sb vL vB li ci ∧ ItemsAt w li (itemsO o) ∧ (itemsO o).length ≤ ci ∧ Only gb w0 w) := ⟨H, hi, hc, O0⟩
  have HN : Hid (Good o ∧ (itemsO o).length ≤ 100000 ∧ key.length ≤ 32 ∧ val.length ≤ 4096 ∧ Blk w nb #[.int .i64 2, .string (str key), .string (str val), .int .i64 pos, .int .u64 l, .int .u64 r] 28) := ⟨hg, hn, hk, hv, kn⟩
  have c2 := (H.k.cell 2).trans rfl
  have zf := H.k.lt
  have hlen : (A ++ (way, d) :: B).length = A.length + (B.length + 1) := by simp
  have hal : (A.length : Int) < ((A ++ (way, d) :: B).length : Int) := by omega
  obtain ⟨la, lc, rfl, hcl⟩ := row_at H.wl
  obtain ⟨gl, e1, zl, acl⟩ := hcl (by omega)
  subst e1
  have al := acl _ _ (flatW_get (A ++ (way, d) :: B) A.length (by omega)).2
  rw [show (A ++ (way, d) :: B)[A.length].2 = d by simp] at al
  have HC : (A ++ (way, d) :: B).length ≤ lc := row_cap H.wl
  have eA : flatW A = (flatW (A ++ (way, d) :: B)).take (A.length * 2) := by rw [flatW_take]; simp
  have eB : flatW B = (flatW (A ++ (way, d) :: B)).drop ((A.length + 1) * 2) := by rw [flatW_drop]; simp
  have GG : ∀ {w'} (h : Below w.heap.size w w'), CellsF w' (some ⟨gl, 0, none⟩) (flatW A) := fun h => by rw [eA]; exact ((CellsF.of_row H.wl).below h).take _
  have GD : ∀ {w'} (h : Below w.heap.size w w'), CellsF w' (if lc = A.length + 1 then some ⟨gl, 0, none⟩ else some ⟨gl, (A.length + 1) * 2, none⟩) (flatW B) := fun h => by
    rw [eB, ← addG gl ((A.length + 1) * 2)]
    exact CellsF.part (cap := lc) (k := A.length + 1) (size := 2) (by decide) ((CellsF.of_row H.wl).below h) (by rw [flatW_len]; omega)
  have HLEN : Hid ((A ++ (way, d) :: B).length = A.length + (B.length + 1)) := hlen
  generalize hLL : (A ++ (way, d) :: B).length = LL at *
  have HLL : Hid (LL = A.length + (B.length + 1)) := hlen
  clear H hi hc O0 hcl acl hlen hLL HLEN hg hn hk hv kn eA eB
  have hsz0 : w.heap.size ≤ w.heap.size := Nat.le_refl _
  have b0 : Below w.heap.size w (w.alloc (.cells #[] 81)) := (Below.refl _ _).alloc (Nat.le_refl _) _
  have c2b := b0.cell (p := ⟨gb, 2, none⟩) zf
  rw [c2] at c2b
  have zf0 := Nat.lt_of_lt_of_le zf b0.size
  have hbc : (A.length : Int) ≤ (lc : Int) := by omega
  have ho0 : (w.alloc (.cells #[] 81)).ownsRow w.heap.size 81 2 _ 0 [] := World.ownsRow_made w #[] 0 hsz0 (Nat.zero_le _) rfl
  have hmA : (flatW A).length = A.length * 2 := flatW_len A
  have gA := GG b0
  go_upto_region 24 with (at_builtin; refine wpList_app_row rfl _ _ 53 rfl rfl _ _ _ _ rfl rfl w.heap.size 81 (.agg #[.string ⟨#[]⟩, .int .u64 0]) 2 24 Tryz.underlying53 infoWantG rfl (by decide) (0) ([]) (flatW A) ?_ ?_ ?_ (flatW_one _) (by omega) (by omega) b0.size ?_; exact ho0; exact hmA; exact gA; intro v1 w1 ho1 hg1)
  have b1 : Below w.heap.size w w1 := b0.grown hg1 b0.size (fun k e => (ho0.lt k e).1)
  simp only [List.nil_append, Nat.zero_add] at ho1
  clear ho0 hg1 b0 c2b zf0 c2 al gA hmA GG
  have kn1 := HN.out.2.2.2.2.below b1 HN.out.2.2.2.2.lt
  have n0 := (kn1.cell 0).trans rfl
  have n4 := (kn1.cell 4).trans rfl
  have n5 := (kn1.cell 5).trans rfl
  have zn := kn1.lt
  clear kn1
  have szw := str_size way
  go_upto_region 25 with fail
  have kx := Blk.new w1 #[.string (str way ++ ⟨#[48]⟩), .int .u64 l, .string (str way ++ ⟨#[49]⟩), .int .u64 r] 81
  have ho1a := ho1.alloc (.cells #[.string (str way ++ ⟨#[48]⟩), .int .u64 l, .string (str way ++ ⟨#[49]⟩), .int .u64 r] 81)
  have b1a : Below w.heap.size w (w1.alloc (.cells #[.string (str way ++ ⟨#[48]⟩), .int .u64 l, .string (str way ++ ⟨#[49]⟩), .int .u64 r] 81)) := b1.alloc b1.size _
  have hLL2 := HLL.out
  go_upto_region 26 with (at_builtin; refine wpList_app_row rfl _ _ 53 rfl rfl _ _ _ _ rfl rfl w.heap.size 81 (.agg #[.string ⟨#[]⟩, .int .u64 0]) 2 24 Tryz.underlying53 infoWantG rfl (by decide) (A.length) (flatW A) ([.string (str way ++ ⟨#[48]⟩), .int .u64 l, .string (str way ++ ⟨#[49]⟩), .int .u64 r]) ?_ ?_ ?_ (fun u hu => by simp at hu; rcases hu with rfl | rfl | rfl | rfl <;> rfl) (by omega) (by omega) b1a.size ?_; exact ho1a; exact rfl; exact (CellsF.blk kx); intro v2 w2 ho2 hg2)
  have b2 : Below w.heap.size w w2 := b1a.grown hg2 b1a.size (fun k e => (ho1.lt k e).1)
  clear ho1a kx b1a hg2 ho1 b1 n0 n4 n5 szw
  have H2 := HH.out.1.below b2
  have c2 := (H2.k.cell 2).trans rfl
  have zf := H2.k.lt
  have hsz2 := b2.size
  have gB := GD b2
  clear H2 GD
  have hmB : (flatW B).length = (A.length + (B.length + 1) - (A.length + 1)) * 2 := by rw [flatW_len]; omega
  go_upto_region 27 with (at_builtin; refine wpList_app_row rfl _ _ 53 rfl rfl _ _ _ _ rfl rfl w.heap.size 81 (.agg #[.string ⟨#[]⟩, .int .u64 0]) 2 24 Tryz.underlying53 infoWantG rfl (by decide) (A.length + 2) (flatW A ++ [.string (str way ++ ⟨#[48]⟩), .int .u64 l, .string (str way ++ ⟨#[49]⟩), .int .u64 r]) (flatW B) ?_ ?_ ?_ (flatW_one _) (by omega) (by omega) hsz2 ?_; exact ho2; exact hmB; exact gB; intro v3 w3 ho3 hg3; obtain ⟨s3, q3, rfl⟩ := slice_of ho3; have b3 : Below w.heap.size w w3 := Below.grown b2 hg3 b2.size (fun k e => (ho2.lt k e).1); have k3 := (HH.out.1.below b3).k; have c2 := (k3.cell 2).trans rfl; have f2 := k3.frozen 2; have zf := k3.lt; clear gB hmB)
  have eN : A.length + 2 + (A.length + (B.length + 1) - (A.length + 1)) = A.length + 2 + B.length := by omega
  rw [eN] at ho3
  have HR : Hid (RSt (w3.setCell ⟨gb, 2, none⟩ (.slice s3 (A.length + 2 + B.length) q3)) gb wd root (A ++ ((way ++ [48], l) :: (way ++ [49], r) :: B)) o sb ∧ Only gb w0 (w3.setCell ⟨gb, 2, none⟩ (.slice s3 (A.length + 2 + B.length) q3))) := by
    obtain ⟨h1, h2, h3, h4⟩ := HH.out
    have h1' := h1.below b3
    have hro : w3.ownsRow w.heap.size 81 2 (.slice s3 (A.length + 2 + B.length) q3) (A ++ ((way ++ [48], l) :: (way ++ [49], r) :: B)).length (flatW (A ++ ((way ++ [48], l) :: (way ++ [49], r) :: B))) := by
      have e1 : (A ++ ((way ++ [48], l) :: (way ++ [49], r) :: B)).length = A.length + 2 + B.length := by simp; try omega
      rw [e1]
      have e2 : flatW (A ++ ((way ++ [48], l) :: (way ++ [49], r) :: B)) = flatW A ++ [.string (str way ++ ⟨#[48]⟩), .int .u64 l, .string (str way ++ ⟨#[49]⟩), .int .u64 r] ++ flatW B := by
        simp only [flatW_app, flatW, List.append_assoc, List.cons_append, List.nil_append, str_endG]
      rw [e2]
      exact ho3
    exact ⟨⟨0, _, _, li, ci, h1'.setL hro, h1'.its (h2.below b3) _ _, h3⟩, (h4.trans (Only.of_below b3)).set 2 _⟩
  have kn3 := HN.out.2.2.2.2.below b3 HN.out.2.2.2.2.lt
  have n0 := (kn3.cell 0).trans rfl
  have zn := kn3.lt
  clear ho3 hg3 k3 c2 f2 b3 HH kn3 HN ho2
  go_wp2
  all_goals
    go_ret
    exact ⟨rfl, HR.out.1, HR.out.2⟩

set_option maxRecDepth 20000 in
set_option maxHeartbeats 6400000 in
theorem ggood9_0 (w0 w : World) (base gb nb : Nat) (wd root x d pos l r : Int) (way key val : Key) (A B : List (Key × Int)) (o : Option Tr) (sb : List Int) (vL vB : Value) (li : Option Addr) (ci : Nat)
    (H : RFet w base gb wd root (A ++ (way, d) :: B) o sb vL vB li ci) (hi : ItemsAt w li (itemsO o)) (hc : (itemsO o).length ≤ ci) (hL : (A ++ (way, d) :: B).length ≤ 900000) (O0 : Only gb w0 w) (hg : Good o) (hn : (itemsO o).length ≤ 100000) (hk : key.length ≤ 32) (hv : val.length ≤ 4096) (hwl : way.length ≤ 100000)
    (kn : Blk w nb #[.int .i64 0, .string (str key), .string (str val), .int .i64 pos, .int .u64 l, .int .u64 r] 28) (c3 c4 c5 c6 c8 c9 c13 c14 c15 c16 c17 c18 c19 c20 c21 c22 c23 c24 c25 c26 c27 c28 c29 c30 c31 c32 c33 c34 c35 c36 c37 c38 c39 c40 c41 c42 c43 c44 c45 c46 c47 c48 c49 c50 c51 c52 c53 c54 c55 c56 c57 c58 c59 c60 c61 c62 c63 c64 c65 c66 c67 c68 c69 c70 c71 c72 c73 c74 c75 c76 c77 c78 c79 c80 c81 c82 c83 c84 c85 c86 c87 c88 c89 c90 c91 c92 c93 c94 c95 c96 c97 c98 c99 c100 c101 c102 c103 c104 c105 c106 c107 c108 c109 c110 c111 c112 c113 c114 c115 c116 c117 c118 c119 c120 c121 c122 c123 c124 c125 c126 c127 c128 c129 c130 c131 c132 c133 c134 c135 c136 c137 c138 c139 c140 c141 c142 c143 c144 c145 c146 c147 c148 c149 c150 c151 c152 c153 c154 c155 c156 c157 c158 c159 c160 c161 c162 c163 c164 c165 c166 c167 c168 c169 c170 c171 c172 c173 c174 c175 c176 c177 c178 c179 c180 : Value) :
    Code.wp Tryz.prog (dropSeqG 9 (Tryz.f15.body.getD .skip)) (bodyPost Tryz.prog Tryz.f15 (fun e w' => RGave w0 gb wd root (A ++ (newW way 0 l r ++ B)) (newO 0 key val o) sb 0 e w')) ⟨#[.pointer (some ⟨gb, 0, none⟩), .int .i64 x, .string (str way), c3, c4, c5, c6, .pointer (some ⟨nb, 0, none⟩), c8, c9, .int .i64 (A.length : Int), .bool true, .int .u64 d, c13, c14, c15, c16, c17, c18, c19, c20, c21, c22, c23, c24, c25, c26, c27, c28, c29, c30, c31, c32, c33, c34, c35, c36, c37, c38, c39, c40, c41, c42, c43, c44, c45, c46, c47, c48, c49, c50, c51, c52, c53, c54, c55, c56, c57, c58, c59, c60, c61, c62, c63, c64, c65, c66, c67, c68, c69, c70, c71, c72, c73, c74, c75, c76, c77, c78, c79, c80, c81, c82, c83, c84, c85, c86, c87, c88, c89, c90, c91, c92, c93, c94, c95, c96, c97, c98, c99, c100, c101, c102, c103, c104, c105, c106, c107, c108, c109, c110, c111, c112, c113, c114, c115, c116, c117, c118, c119, c120, c121, c122, c123, c124, c125, c126, c127, c128, c129, c130, c131, c132, c133, c134, c135, c136, c137, c138, c139, c140, c141, c142, c143, c144, c145, c146, c147, c148, c149, c150, c151, c152, c153, c154, c155, c156, c157, c158, c159, c160, c161, c162, c163, c164, c165, c166, c167, c168, c169, c170, c171, c172, c173, c174, c175, c176, c177, c178, c179, c180], []⟩ w := by
  conv => arg 2; whnf
  conv => arg 4; dsimp only
  have HH : Hid (RFet w base gb wd root (A ++ (way, d) :: B) o sb vL vB li ci ∧ ItemsAt w li (itemsO o) ∧ (itemsO o).length ≤ ci ∧ Only gb w0 w) := ⟨H, hi, hc, O0⟩
  have HN : Hid (Good o ∧ (itemsO o).length ≤ 100000 ∧ key.length ≤ 32 ∧ val.length ≤ 4096 ∧ Blk w nb #[.int .i64 0, .string (str key), .string (str val), .int .i64 pos, .int .u64 l, .int .u64 r] 28) := ⟨hg, hn, hk, hv, kn⟩
  have c2 := (H.k.cell 2).trans rfl
  have zf := H.k.lt
  have hlen : (A ++ (way, d) :: B).length = A.length + (B.length + 1) := by simp
  have hal : (A.length : Int) < ((A ++ (way, d) :: B).length : Int) := by omega
  obtain ⟨la, lc, rfl, hcl⟩ := row_at H.wl
  obtain ⟨gl, e1, zl, acl⟩ := hcl (by omega)
  subst e1
  have al := acl _ _ (flatW_get (A ++ (way, d) :: B) A.length (by omega)).2
  rw [show (A ++ (way, d) :: B)[A.length].2 = d by simp] at al
  have HC : (A ++ (way, d) :: B).length ≤ lc := row_cap H.wl
  have eA : flatW A = (flatW (A ++ (way, d) :: B)).take (A.length * 2) := by rw [flatW_take]; simp
  have eB : flatW B = (flatW (A ++ (way, d) :: B)).drop ((A.length + 1) * 2) := by rw [flatW_drop]; simp
  have GG : ∀ {w'} (h : Below w.heap.size w w'), CellsF w' (some ⟨gl, 0, none⟩) (flatW A) := fun h => by rw [eA]; exact ((CellsF.of_row H.wl).below h).take _
  have GD : ∀ {w'} (h : Below w.heap.size w w'), CellsF w' (if lc = A.length + 1 then some ⟨gl, 0, none⟩ else some ⟨gl, (A.length + 1) * 2, none⟩) (flatW B) := fun h => by
    rw [eB, ← addG gl ((A.length + 1) * 2)]
    exact CellsF.part (cap := lc) (k := A.length + 1) (size := 2) (by decide) ((CellsF.of_row H.wl).below h) (by rw [flatW_len]; omega)
  have HLEN : Hid ((A ++ (way, d) :: B).length = A.length + (B.length + 1)) := hlen
  generalize hLL : (A ++ (way, d) :: B).length = LL at *
  have HLL : Hid (LL = A.length + (B.length + 1)) := hlen
  clear H hi hc O0 hcl acl hlen hLL HLEN hg hn hk hv kn eA eB
  have hsz0 : w.heap.size ≤ w.heap.size := Nat.le_refl _
  have b0 : Below w.heap.size w (w.alloc (.cells #[] 81)) := (Below.refl _ _).alloc (Nat.le_refl _) _
  have c2b := b0.cell (p := ⟨gb, 2, none⟩) zf
  rw [c2] at c2b
  have zf0 := Nat.lt_of_lt_of_le zf b0.size
  have hbc : (A.length : Int) ≤ (lc : Int) := by omega
  have ho0 : (w.alloc (.cells #[] 81)).ownsRow w.heap.size 81 2 _ 0 [] := World.ownsRow_made w #[] 0 hsz0 (Nat.zero_le _) rfl
  have hmA : (flatW A).length = A.length * 2 := flatW_len A
  have gA := GG b0
  go_upto_region 24 with (at_builtin; refine wpList_app_row rfl _ _ 53 rfl rfl _ _ _ _ rfl rfl w.heap.size 81 (.agg #[.string ⟨#[]⟩, .int .u64 0]) 2 24 Tryz.underlying53 infoWantG rfl (by decide) (0) ([]) (flatW A) ?_ ?_ ?_ (flatW_one _) (by omega) (by omega) b0.size ?_; exact ho0; exact hmA; exact gA; intro v1 w1 ho1 hg1)
  have b1 : Below w.heap.size w w1 := b0.grown hg1 b0.size (fun k e => (ho0.lt k e).1)
  simp only [List.nil_append, Nat.zero_add] at ho1
  clear ho0 hg1 b0 c2b zf0 c2 al gA hmA GG
  have kn1 := HN.out.2.2.2.2.below b1 HN.out.2.2.2.2.lt
  have n0 := (kn1.cell 0).trans rfl
  have zn := kn1.lt
  clear kn1
  go_upto_region 26 with fail
  generalize w1 = w2 at *
  have ho2 := ho1
  have b2 := b1
  clear ho1 b1 n0
  have hLL2 := HLL.out
  have H2 := HH.out.1.below b2
  have c2 := (H2.k.cell 2).trans rfl
  have zf := H2.k.lt
  have hsz2 := b2.size
  have gB := GD b2
  clear H2 GD
  have hmB : (flatW B).length = (A.length + (B.length + 1) - (A.length + 1)) * 2 := by rw [flatW_len]; omega
  go_upto_region 27 with (at_builtin; refine wpList_app_row rfl _ _ 53 rfl rfl _ _ _ _ rfl rfl w.heap.size 81 (.agg #[.string ⟨#[]⟩, .int .u64 0]) 2 24 Tryz.underlying53 infoWantG rfl (by decide) (A.length) (flatW A) (flatW B) ?_ ?_ ?_ (flatW_one _) (by omega) (by omega) hsz2 ?_; exact ho2; exact hmB; exact gB; intro v3 w3 ho3 hg3; obtain ⟨s3, q3, rfl⟩ := slice_of ho3; have b3 : Below w.heap.size w w3 := Below.grown b2 hg3 b2.size (fun k e => (ho2.lt k e).1); have k3 := (HH.out.1.below b3).k; have c2 := (k3.cell 2).trans rfl; have f2 := k3.frozen 2; have zf := k3.lt; clear gB hmB)
  have eN : A.length + (A.length + (B.length + 1) - (A.length + 1)) = A.length + B.length := by omega
  rw [eN] at ho3
  have HR : Hid (RSt (w3.setCell ⟨gb, 2, none⟩ (.slice s3 (A.length + B.length) q3)) gb wd root (A ++ B) o sb ∧ Only gb w0 (w3.setCell ⟨gb, 2, none⟩ (.slice s3 (A.length + B.length) q3))) := by
    obtain ⟨h1, h2, h3, h4⟩ := HH.out
    have h1' := h1.below b3
    have hro : w3.ownsRow w.heap.size 81 2 (.slice s3 (A.length + B.length) q3) (A ++ B).length (flatW (A ++ B)) := by
      have e1 : (A ++ B).length = A.length + B.length := by simp; try omega
      rw [e1]
      have e2 : flatW (A ++ B) = flatW A ++ flatW B := by
        exact flatW_app A B
      rw [e2]
      exact ho3
    exact ⟨⟨0, _, _, li, ci, h1'.setL hro, h1'.its (h2.below b3) _ _, h3⟩, (h4.trans (Only.of_below b3)).set 2 _⟩
  have kn3 := HN.out.2.2.2.2.below b3 HN.out.2.2.2.2.lt
  have n0 := (kn3.cell 0).trans rfl
  have zn := kn3.lt
  clear ho3 hg3 k3 c2 f2 b3 HH kn3 HN ho2
  go_wp2
  all_goals
    go_ret
    exact ⟨rfl, HR.out.1, HR.out.2⟩

set_option maxRecDepth 20000 in
set_option maxHeartbeats 6400000 in
theorem ggood9_1 (w0 w : World) (base gb nb : Nat) (wd root x d pos l r : Int) (way key val : Key) (A B : List (Key × Int)) (o : Option Tr) (sb : List Int) (vL vB : Value) (li : Option Addr) (ci : Nat)
    (H : RFet w base gb wd root (A ++ (way, d) :: B) o sb vL vB li ci) (hi : ItemsAt w li (itemsO o)) (hc : (itemsO o).length ≤ ci) (hL : (A ++ (way, d) :: B).length ≤ 900000) (O0 : Only gb w0 w) (hg : Good o) (hn : (itemsO o).length ≤ 100000) (hk : key.length ≤ 32) (hv : val.length ≤ 4096) (hwl : way.length ≤ 100000)
    (kn : Blk w nb #[.int .i64 1, .string (str key), .string (str val), .int .i64 pos, .int .u64 l, .int .u64 r] 28) (c3 c4 c5 c6 c8 c9 c13 c14 c15 c16 c17 c18 c19 c20 c21 c22 c23 c24 c25 c26 c27 c28 c29 c30 c31 c32 c33 c34 c35 c36 c37 c38 c39 c40 c41 c42 c43 c44 c45 c46 c47 c48 c49 c50 c51 c52 c53 c54 c55 c56 c57 c58 c59 c60 c61 c62 c63 c64 c65 c66 c67 c68 c69 c70 c71 c72 c73 c74 c75 c76 c77 c78 c79 c80 c81 c82 c83 c84 c85 c86 c87 c88 c89 c90 c91 c92 c93 c94 c95 c96 c97 c98 c99 c100 c101 c102 c103 c104 c105 c106 c107 c108 c109 c110 c111 c112 c113 c114 c115 c116 c117 c118 c119 c120 c121 c122 c123 c124 c125 c126 c127 c128 c129 c130 c131 c132 c133 c134 c135 c136 c137 c138 c139 c140 c141 c142 c143 c144 c145 c146 c147 c148 c149 c150 c151 c152 c153 c154 c155 c156 c157 c158 c159 c160 c161 c162 c163 c164 c165 c166 c167 c168 c169 c170 c171 c172 c173 c174 c175 c176 c177 c178 c179 c180 : Value) :
    Code.wp Tryz.prog (dropSeqG 9 (Tryz.f15.body.getD .skip)) (bodyPost Tryz.prog Tryz.f15 (fun e w' => RGave w0 gb wd root (A ++ (newW way 1 l r ++ B)) (newO 1 key val o) sb 0 e w')) ⟨#[.pointer (some ⟨gb, 0, none⟩), .int .i64 x, .string (str way), c3, c4, c5, c6, .pointer (some ⟨nb, 0, none⟩), c8, c9, .int .i64 (A.length : Int), .bool true, .int .u64 d, c13, c14, c15, c16, c17, c18, c19, c20, c21, c22, c23, c24, c25, c26, c27, c28, c29, c30, c31, c32, c33, c34, c35, c36, c37, c38, c39, c40, c41, c42, c43, c44, c45, c46, c47, c48, c49, c50, c51, c52, c53, c54, c55, c56, c57, c58, c59, c60, c61, c62, c63, c64, c65, c66, c67, c68, c69, c70, c71, c72, c73, c74, c75, c76, c77, c78, c79, c80, c81, c82, c83, c84, c85, c86, c87, c88, c89, c90, c91, c92, c93, c94, c95, c96, c97, c98, c99, c100, c101, c102, c103, c104, c105, c106, c107, c108, c109, c110, c111, c112, c113, c114, c115, c116, c117, c118, c119, c120, c121, c122, c123, c124, c125, c126, c127, c128, c129, c130, c131, c132, c133, c134, c135, c136, c137, c138, c139, c140, c141, c142, c143, c144, c145, c146, c147, c148, c149, c150, c151, c152, c153, c154, c155, c156, c157, c158, c159, c160, c161, c162, c163, c164, c165, c166, c167, c168, c169, c170, c171, c172, c173, c174, c175, c176, c177, c178, c179, c180], []⟩ w := by
  conv => arg 2; whnf
  conv => arg 4; dsimp only
  have HH : Hid (RFet w base gb wd root (A ++ (way, d) :: B) o sb vL vB li ci ∧ ItemsAt w li (itemsO o) ∧ (itemsO o).length ≤ ci ∧ Only gb w0 w) := ⟨H, hi, hc, O0⟩
  have HN : Hid (Good o ∧ (itemsO o).length ≤ 100000 ∧ key.length ≤ 32 ∧ val.length ≤ 4096 ∧ Blk w nb #[.int .i64 1, .string (str key), .string (str val), .int .i64 pos, .int .u64 l, .int .u64 r] 28) := ⟨hg, hn, hk, hv, kn⟩
  have c2 := (H.k.cell 2).trans rfl
  have zf := H.k.lt
  have hlen : (A ++ (way, d) :: B).length = A.length + (B.length + 1) := by simp
  have hal : (A.length : Int) < ((A ++ (way, d) :: B).length : Int) := by omega
  obtain ⟨la, lc, rfl, hcl⟩ := row_at H.wl
  obtain ⟨gl, e1, zl, acl⟩ := hcl (by omega)
  subst e1
  have al := acl _ _ (flatW_get (A ++ (way, d) :: B) A.length (by omega)).2
  rw [show (A ++ (way, d) :: B)[A.length].2 = d by simp] at al
  have HC : (A ++ (way, d) :: B).length ≤ lc := row_cap H.wl
  have eA : flatW A = (flatW (A ++ (way, d) :: B)).take (A.length * 2) := by rw [flatW_take]; simp
  have eB : flatW B = (flatW (A ++ (way, d) :: B)).drop ((A.length + 1) * 2) := by rw [flatW_drop]; simp
  have GG : ∀ {w'} (h : Below w.heap.size w w'), CellsF w' (some ⟨gl, 0, none⟩) (flatW A) := fun h => by rw [eA]; exact ((CellsF.of_row H.wl).below h).take _
  have GD : ∀ {w'} (h : Below w.heap.size w w'), CellsF w' (if lc = A.length + 1 then some ⟨gl, 0, none⟩ else some ⟨gl, (A.length + 1) * 2, none⟩) (flatW B) := fun h => by
    rw [eB, ← addG gl ((A.length + 1) * 2)]
    exact CellsF.part (cap := lc) (k := A.length + 1) (size := 2) (by decide) ((CellsF.of_row H.wl).below h) (by rw [flatW_len]; omega)
  have HLEN : Hid ((A ++ (way, d) :: B).length = A.length + (B.length + 1)) := hlen
  generalize hLL : (A ++ (way, d) :: B).length = LL at *
  have HLL : Hid (LL = A.length + (B.length + 1)) := hlen
  clear H hi hc O0 hcl acl hlen hLL HLEN hg hn hk hv kn eA eB
  have hsz0 : w.heap.size ≤ w.heap.size := Nat.le_refl _
  have b0 : Below w.heap.size w (w.alloc (.cells #[] 81)) := (Below.refl _ _).alloc (Nat.le_refl _) _
  have c2b := b0.cell (p := ⟨gb, 2, none⟩) zf
  rw [c2] at c2b
  have zf0 := Nat.lt_of_lt_of_le zf b0.size
  have hbc : (A.length : Int) ≤ (lc : Int) := by omega
  have ho0 : (w.alloc (.cells #[] 81)).ownsRow w.heap.size 81 2 _ 0 [] := World.ownsRow_made w #[] 0 hsz0 (Nat.zero_le _) rfl
  have hmA : (flatW A).length = A.length * 2 := flatW_len A
  have gA := GG b0
  go_upto_region 24 with (at_builtin; refine wpList_app_row rfl _ _ 53 rfl rfl _ _ _ _ rfl rfl w.heap.size 81 (.agg #[.string ⟨#[]⟩, .int .u64 0]) 2 24 Tryz.underlying53 infoWantG rfl (by decide) (0) ([]) (flatW A) ?_ ?_ ?_ (flatW_one _) (by omega) (by omega) b0.size ?_; exact ho0; exact hmA; exact gA; intro v1 w1 ho1 hg1)
  have b1 : Below w.heap.size w w1 := b0.grown hg1 b0.size (fun k e => (ho0.lt k e).1)
  simp only [List.nil_append, Nat.zero_add] at ho1
  clear ho0 hg1 b0 c2b zf0 c2 al gA hmA GG
  have kn1 := HN.out.2.2.2.2.below b1 HN.out.2.2.2.2.lt
  have n0 := (kn1.cell 0).trans rfl
  have zn := kn1.lt
  clear kn1
  go_upto_region 26 with fail
  generalize w1 = w2 at *
  have ho2 := ho1
  have b2 := b1
  clear ho1 b1 n0
  have hLL2 := HLL.out
  have H2 := HH.out.1.below b2
  have c2 := (H2.k.cell 2).trans rfl
  have zf := H2.k.lt
  have hsz2 := b2.size
  have gB := GD b2
  clear H2 GD
  have hmB : (flatW B).length = (A.length + (B.length + 1) - (A.length + 1)) * 2 := by rw [flatW_len]; omega
  go_upto_region 27 with (at_builtin; refine wpList_app_row rfl _ _ 53 rfl rfl _ _ _ _ rfl rfl w.heap.size 81 (.agg #[.string ⟨#[]⟩, .int .u64 0]) 2 24 Tryz.underlying53 infoWantG rfl (by decide) (A.length) (flatW A) (flatW B) ?_ ?_ ?_ (flatW_one _) (by omega) (by omega) hsz2 ?_; exact ho2; exact hmB; exact gB; intro v3 w3 ho3 hg3; obtain ⟨s3, q3, rfl⟩ := slice_of ho3; have b3 : Below w.heap.size w w3 := Below.grown b2 hg3 b2.size (fun k e => (ho2.lt k e).1); have k3 := (HH.out.1.below b3).k; have c2 := (k3.cell 2).trans rfl; have f2 := k3.frozen 2; have zf := k3.lt; clear gB hmB)
  have eN : A.length + (A.length + (B.length + 1) - (A.length + 1)) = A.length + B.length := by omega
  rw [eN] at ho3
  have HR0 : Hid (∃ base vL vB, RFet (w3.setCell ⟨gb, 2, none⟩ (.slice s3 (A.length + B.length) q3)) base gb wd root (A ++ B) o sb vL vB li ci ∧ Only gb w0 (w3.setCell ⟨gb, 2, none⟩ (.slice s3 (A.length + B.length) q3)) ∧ ItemsAt (w3.setCell ⟨gb, 2, none⟩ (.slice s3 (A.length + B.length) q3)) li (itemsO o)) := by
    obtain ⟨h1, h2, h3, h4⟩ := HH.out
    have h1' := h1.below b3
    have hro : w3.ownsRow w.heap.size 81 2 (.slice s3 (A.length + B.length) q3) (A ++ B).length (flatW (A ++ B)) := by
      have e1 : (A ++ B).length = A.length + B.length := by simp; try omega
      rw [e1]
      have e2 : flatW (A ++ B) = flatW A ++ flatW B := by
        exact flatW_app A B
      rw [e2]
      exact ho3
    exact ⟨0, _, _, h1'.setL hro, (h4.trans (Only.of_below b3)).set 2 _, h1'.its (h2.below b3) _ _⟩
  have kn3 : Blk (w3.setCell ⟨gb, 2, none⟩ (.slice s3 (A.length + B.length) q3)) nb #[.int .i64 1, .string (str key), .string (str val), .int .i64 pos, .int .u64 l, .int .u64 r] 28 := by
    have q := HN.out.2.2.2.2.below b3 HN.out.2.2.2.2.lt
    refine q.setOther _ ?_ _
    show nb ≠ gb
    intro e
    subst e
    have := k3.symm.trans q
    simp at this
  have n0 := (kn3.cell 0).trans rfl
  have zn := kn3.lt
  have HNN : Hid (Good o ∧ (itemsO o).length ≤ 100000 ∧ key.length ≤ 32 ∧ val.length ≤ 4096) := ⟨HN.out.1, HN.out.2.1, HN.out.2.2.1, HN.out.2.2.2.1⟩
  rw [eN]
  have HB : Hid (∃ base vL vB, RFet (w3.setCell ⟨gb, 2, none⟩ (.slice s3 (A.length + B.length) q3)) base gb wd root (A ++ B) o sb vL vB li ci ∧ Only gb w0 (w3.setCell ⟨gb, 2, none⟩ (.slice s3 (A.length + B.length) q3)) ∧ ItemsAt (w3.setCell ⟨gb, 2, none⟩ (.slice s3 (A.length + B.length) q3)) li (itemsO o)) := HR0.out
  generalize w3.setCell ⟨gb, 2, none⟩ (.slice s3 (A.length + B.length) q3) = wB at *
  obtain ⟨base', vL', vB', hB1, hB2, hB3⟩ := HB.out
  have KP : ∀ w', Below wB.heap.size wB w' → _ := fun w' h => rput_cap wd li ci (itemsO o) key val w' HNN.out.2.1 HNN.out.2.2.1 HNN.out.2.2.2 (hB3.below h)
  rw [← (putO_spec key val o HNN.out.1 HNN.out.2.2.1 HNN.out.2.2.2).2] at KP
  have F3 : ∀ w', Below wB.heap.size wB w' → w'.cell? ⟨gb, 3, none⟩ = some (.int .i64 wd) := fun w' h => ((hB1.k.below h hB1.k.lt).cell 3).trans rfl
  have F4 : ∀ w', Below wB.heap.size wB w' → w'.cell? ⟨gb, 4, none⟩ = some (.slice li (itemsO o).length ci) := fun w' h => ((hB1.k.below h hB1.k.lt).cell 4).trans rfl
  have N1 : ∀ w', Below wB.heap.size wB w' → w'.cell? ⟨nb, 1, none⟩ = some (.string (str key)) := fun w' h => ((kn3.below h kn3.lt).cell 1).trans rfl
  have N2 : ∀ w', Below wB.heap.size wB w' → w'.cell? ⟨nb, 2, none⟩ = some (.string (str val)) := fun w' h => ((kn3.below h kn3.lt).cell 2).trans rfl
  have HB' : Hid (RFet wB base' gb wd root (A ++ B) o sb vL' vB' li ci ∧ Only gb w0 wB) := ⟨hB1, hB2⟩
  clear HB HR0 hB1 hB2 hB3 ho3 hg3 k3 c2 f2 b3 HH HN ho2 b2 kn3 eN
  go_upto_region 28 with fail
  clear n0
  replace HB' := HB'
  have hHeld : Below wB.heap.size wB wB.drew := (Below.refl _ _).drew
  refine wp_region_late (fun w' => Below wB.heap.size wB w') 15 (by kernel_rfl) ?_
  refine wpAnyM_take (i := 0) (v := ?_) rfl (by kernel_rfl) (by kernel_rfl) (by kernel_rfl) (by kernel_rfl) (by decide) (by kernel_rfl) (fun _ _ _ h => h) (Or.inl ⟨by kernel_rfl, ?_⟩) (by assumption) ?_
  rotate_left
  · intro w' hSw
    have y_F3 := F3 _ hSw
    have y_F4 := F4 _ hSw
    have y_N1 := N1 _ hSw
    have y_N2 := N2 _ hSw
    go_simp
    try (with_reducible rfl)
  simp only [Act.put, List.getElem_toArray, List.getElem_cons_succ, List.getElem_cons_zero, List.setIfInBounds_toArray, List.set_cons_zero, List.set_cons_succ]
  refine wpAnyM_take (i := 1) (v := ?_) rfl (by kernel_rfl) (by kernel_rfl) (by kernel_rfl) (by kernel_rfl) (by decide) (by kernel_rfl) (fun _ _ _ h => h) (Or.inl ⟨by kernel_rfl, ?_⟩) (by assumption) ?_
  rotate_left
  · intro w' hSw
    have y_F3 := F3 _ hSw
    have y_F4 := F4 _ hSw
    have y_N1 := N1 _ hSw
    have y_N2 := N2 _ hSw
    go_simp
    try (with_reducible rfl)
  simp only [Act.put, List.getElem_toArray, List.getElem_cons_succ, List.getElem_cons_zero, List.setIfInBounds_toArray, List.set_cons_zero, List.set_cons_succ]
  refine wpAnyM_take (i := 2) (v := ?_) rfl (by kernel_rfl) (by kernel_rfl) (by kernel_rfl) (by kernel_rfl) (by decide) (by kernel_rfl) (fun _ _ _ h => h) (Or.inl ⟨by kernel_rfl, ?_⟩) (by assumption) ?_
  rotate_left
  · intro w' hSw
    have y_F3 := F3 _ hSw
    have y_F4 := F4 _ hSw
    have y_N1 := N1 _ hSw
    have y_N2 := N2 _ hSw
    go_simp
    try (with_reducible rfl)
  simp only [Act.put, List.getElem_toArray, List.getElem_cons_succ, List.getElem_cons_zero, List.setIfInBounds_toArray, List.set_cons_zero, List.set_cons_succ]
  refine wpAnyM_take (i := 3) (v := ?_) rfl (by kernel_rfl) (by kernel_rfl) (by kernel_rfl) (by kernel_rfl) (by decide) (by kernel_rfl) (fun _ _ _ h => h) (Or.inl ⟨by kernel_rfl, ?_⟩) (by assumption) ?_
  rotate_left
  · intro w' hSw
    have y_F3 := F3 _ hSw
    have y_F4 := F4 _ hSw
    have y_N1 := N1 _ hSw
    have y_N2 := N2 _ hSw
    go_simp
    try (with_reducible rfl)
  simp only [Act.put, List.getElem_toArray, List.getElem_cons_succ, List.getElem_cons_zero, List.setIfInBounds_toArray, List.set_cons_zero, List.set_cons_succ]
  refine wpAnyM_take (i := 4) (v := ?_) rfl (by kernel_rfl) (by kernel_rfl) (by kernel_rfl) (by kernel_rfl) (by decide) (by kernel_rfl) (fun _ _ _ h => h) (Or.inl ⟨by kernel_rfl, ?_⟩) (by assumption) ?_
  rotate_left
  · intro w' hSw
    have y_F3 := F3 _ hSw
    have y_F4 := F4 _ hSw
    have y_N1 := N1 _ hSw
    have y_N2 := N2 _ hSw
    go_simp
    try (with_reducible rfl)
  simp only [Act.put, List.getElem_toArray, List.getElem_cons_succ, List.getElem_cons_zero, List.setIfInBounds_toArray, List.set_cons_zero, List.set_cons_succ]
  refine wpAnyM_take (i := 5) (v := ?_) rfl (by kernel_rfl) (by kernel_rfl) (by kernel_rfl) (by kernel_rfl) (by decide) (by kernel_rfl) (fun _ _ _ h => h) (Or.inl ⟨by kernel_rfl, ?_⟩) (by assumption) ?_
  rotate_left
  · intro w' hSw
    have y_F3 := F3 _ hSw
    have y_F4 := F4 _ hSw
    have y_N1 := N1 _ hSw
    have y_N2 := N2 _ hSw
    go_simp
    try (with_reducible rfl)
  simp only [Act.put, List.getElem_toArray, List.getElem_cons_succ, List.getElem_cons_zero, List.setIfInBounds_toArray, List.set_cons_zero, List.set_cons_succ]
  refine wpAnyM_take (i := 6) (v := ?_) rfl (by kernel_rfl) (by kernel_rfl) (by kernel_rfl) (by kernel_rfl) (by decide) (by kernel_rfl) (fun _ _ _ h => h) (Or.inl ⟨by kernel_rfl, ?_⟩) (by assumption) ?_
  rotate_left
  · intro w' hSw
    have y_F3 := F3 _ hSw
    have y_F4 := F4 _ hSw
    have y_N1 := N1 _ hSw
    have y_N2 := N2 _ hSw
    go_simp
    try (with_reducible rfl)
  simp only [Act.put, List.getElem_toArray, List.getElem_cons_succ, List.getElem_cons_zero, List.setIfInBounds_toArray, List.set_cons_zero, List.set_cons_succ]
  refine wpAnyM_take (i := 7) (v := ?_) rfl (by kernel_rfl) (by kernel_rfl) (by kernel_rfl) (by kernel_rfl) (by decide) (by kernel_rfl) (fun _ _ _ h => h) (Or.inl ⟨by kernel_rfl, ?_⟩) (by assumption) ?_
  rotate_left
  · intro w' hSw
    have y_F3 := F3 _ hSw
    have y_F4 := F4 _ hSw
    have y_N1 := N1 _ hSw
    have y_N2 := N2 _ hSw
    go_simp
    try (with_reducible rfl)
  simp only [Act.put, List.getElem_toArray, List.getElem_cons_succ, List.getElem_cons_zero, List.setIfInBounds_toArray, List.set_cons_zero, List.set_cons_succ]
  refine wpAnyM_take (i := 8) (v := ?_) rfl (by kernel_rfl) (by kernel_rfl) (by kernel_rfl) (by kernel_rfl) (by decide) (by kernel_rfl) (fun _ _ _ h => h) (Or.inl ⟨by kernel_rfl, ?_⟩) (by assumption) ?_
  rotate_left
  · intro w' hSw
    have y_F3 := F3 _ hSw
    have y_F4 := F4 _ hSw
    have y_N1 := N1 _ hSw
    have y_N2 := N2 _ hSw
    go_simp
    try (with_reducible rfl)
  simp only [Act.put, List.getElem_toArray, List.getElem_cons_succ, List.getElem_cons_zero, List.setIfInBounds_toArray, List.set_cons_zero, List.set_cons_succ]
  refine wpAnyM_one (i := 9) (by kernel_rfl) ?_
  refine wpOp_step rfl (fun K hK => ?_)
  go_simp
  refine (KP _ (by assumption)).mono ?_
  rintro e w5 ⟨li5, ⟨ci5, rfl, hc5⟩, hi5, b5, fr5⟩
  have hN : Below wB.heap.size wB w5 := hHeld.trans (b5.mono hHeld.size)
  refine hK _ _ ⟨fun _ => hN, ?_⟩
  clear hK K
  try simp only [Act.put, List.getElem_toArray, List.getElem_cons_succ, List.getElem_cons_zero, List.setIfInBounds_toArray, List.set_cons_zero, List.set_cons_succ]
  refine wpAnyM_pure (i := 10) (v := ?_) rfl (by kernel_rfl) (by kernel_rfl) (by kernel_rfl) (by decide) (fun _ _ _ h => h) (Or.inl ⟨by kernel_rfl, ?_⟩) (by assumption) ?_
  rotate_left
  · intro w' _
    go_simp
    try (with_reducible rfl)
  simp only [Act.put, List.getElem_toArray, List.getElem_cons_succ, List.getElem_cons_zero, List.setIfInBounds_toArray, List.set_cons_zero, List.set_cons_succ]
  refine wpAnyM_pure (i := 11) (v := ?_) rfl (by kernel_rfl) (by kernel_rfl) (by kernel_rfl) (by decide) (fun _ _ _ h => h) (Or.inl ⟨by kernel_rfl, ?_⟩) (by assumption) ?_
  rotate_left
  · intro w' _
    go_simp
    try (with_reducible rfl)
  simp only [Act.put, List.getElem_toArray, List.getElem_cons_succ, List.getElem_cons_zero, List.setIfInBounds_toArray, List.set_cons_zero, List.set_cons_succ]
  refine wpAnyM_pure (i := 12) (v := ?_) rfl (by kernel_rfl) (by kernel_rfl) (by kernel_rfl) (by decide) (fun _ _ _ h => h) (Or.inl ⟨by kernel_rfl, ?_⟩) (by assumption) ?_
  rotate_left
  · intro w' _
    go_simp
    try (with_reducible rfl)
  simp only [Act.put, List.getElem_toArray, List.getElem_cons_succ, List.getElem_cons_zero, List.setIfInBounds_toArray, List.set_cons_zero, List.set_cons_succ]
  refine wpAnyM_pure (i := 13) (v := ?_) rfl (by kernel_rfl) (by kernel_rfl) (by kernel_rfl) (by decide) (fun _ _ _ h => h) (Or.inl ⟨by kernel_rfl, ?_⟩) (by assumption) ?_
  rotate_left
  · intro w' _
    go_simp
    try (with_reducible rfl)
  simp only [Act.put, List.getElem_toArray, List.getElem_cons_succ, List.getElem_cons_zero, List.setIfInBounds_toArray, List.set_cons_zero, List.set_cons_succ]
  refine wpAnyM_pure (i := 14) (v := ?_) rfl (by kernel_rfl) (by kernel_rfl) (by kernel_rfl) (by decide) (fun _ _ _ h => h) (Or.inl ⟨by kernel_rfl, ?_⟩) (by assumption) ?_
  rotate_left
  · intro w' _
    go_simp
    try (with_reducible rfl)
  simp only [Act.put, List.getElem_toArray, List.getElem_cons_succ, List.getElem_cons_zero, List.setIfInBounds_toArray, List.set_cons_zero, List.set_cons_succ]
  have H5 := HB'.out.1.below hN
  have y3 := (H5.k.cell 3).trans rfl
  have y4 := (H5.k.cell 4).trans rfl
  have yl := H5.k.lt
  have yf3 := H5.k.frozen 3
  have yf4 := H5.k.frozen 4
  refine wpAnyM_one (i := 15) (by kernel_rfl) ?_
  refine wpOp_step rfl (fun K hK => ?_)
  go_simp
  refine hK _ _ ⟨fun h => absurd h (by decide), ?_⟩
  clear hK K
  refine wpAnyM_done (by kernel_rfl) ?_ _
  try simp only [Exit.then]
  have HR : Hid (RSt ((w5.setCell ⟨gb, 3, none⟩ (.int .i64 wd)).setCell ⟨gb, 4, none⟩ (.slice li5 (itemsO (putO key val o)).length ci5)) gb wd root (A ++ B) (putO key val o) sb ∧ Only gb w0 ((w5.setCell ⟨gb, 3, none⟩ (.int .i64 wd)).setCell ⟨gb, 4, none⟩ (.slice li5 (itemsO (putO key val o)).length ci5))) := by
    have k1 := H5.k.set 3 (.int .i64 wd)
    refine ⟨⟨0, _, _, li5, ci5, H5.setT, ?_, hc5⟩, ((HB'.out.2.trans (Only.of_below hN)).set 3 _).set 4 _⟩
    have g1 := H5.its hi5 3 (.int .i64 wd)
    exact g1.setOff k1 H5.nostr 4 _
  clear y3 y4 yl yf3 yf4 KP F3 F4 N1 N2 hHeld
  go_wp2
  all_goals
    go_ret
    exact ⟨rfl, HR.out.1, HR.out.2⟩

section
variable {gb : Nat} {wd root : Int} {o : Option Tr} {sb : List Int}
theorem rgives_good (x k pos l r d : Int) (way key val : Key) (A B : List (Key × Int)) (w : World) (hb : sb.length < 1000000) (hL : (A ++ (way, d) :: B).length ≤ 900000) (hwd : okW wd) (hwl : way.length ≤ 100000) (hg : Good o) (hn : (itemsO o).length ≤ 100000) (hk : key.length ≤ maxLen) (hv : val.length ≤ maxLen) (hpp : -9223372036854775808 ≤ pos ∧ pos ≤ 9223372036854775807) (hl : 0 ≤ l ∧ l ≤ 18446744073709551615) (hr : 0 ≤ r ∧ r ≤ 18446744073709551615)
    (H : RSt w gb wd root (A ++ (way, d) :: B) o sb) (hx : ¬ x ∈ sb) (hw : way ∉ A.map Prod.fst) (hok : okN wd way d k key val pos l r = true) :
    Calls Tryz.prog 15 #[.pointer (some ⟨gb, 0, none⟩), .int .i64 x, .string (str way), .agg #[.int .i64 k, .string (str key), .string (str val), .int .i64 pos, .int .u64 l, .int .u64 r]] w fun e w' => RGave w gb wd root (A ++ (newW way k l r ++ B)) (newO k key val o) sb 0 e w' := by
  obtain ⟨base, vL, vB, li, ci, H, hi, hc⟩ := H
  refine rgive_pre _ x k pos l r d way key val A B w (by omega) (by omega) hwd hk hv hpp hl hr H hx hw ?_
  intro nb c3 c4 c5 c6 c8 c9 c13 c14 c15 c16 c17 c18 c19 c20 c21 c22 c23 c24 c25 c26 c27 c28 c29 c30 c31 c32 c33 c34 c35 c36 c37 c38 c39 c40 c41 c42 c43 c44 c45 c46 c47 c48 c49 c50 c51 c52 c53 c54 c55 c56 c57 c58 c59 c60 c61 c62 c63 c64 c65 c66 c67 c68 c69 c70 c71 c72 c73 c74 c75 c76 c77 c78 c79 c80 c81 c82 c83 c84 c85 c86 c87 c88 c89 c90 c91 c92 c93 c94 c95 c96 c97 c98 c99 c100 c101 c102 c103 c104 c105 c106 c107 c108 c109 c110 c111 c112 c113 c114 c115 c116 c117 c118 c119 c120 c121 c122 c123 c124 c125 c126 c127 c128 c129 c130 c131 c132 c133 c134 c135 c136 c137 c138 c139 c140 c141 c142 c143 c144 c145 c146 c147 c148 c149 c150 c151 c152 c153 c154 c155 c156 c157 c158 c159 c160 c161 c162 c163 c164 c165 c166 c167 c168 c169 c170 c171 c172 c173 c174 c175 c176 c177 c178 c179 c180 w1 b1 hnb kn
  have hm : mayN k key val pos l r = true := by
    unfold okN at hok
    simp only [Bool.and_eq_true] at hok
    exact hok.1
  rw [okN_due] at hok
  simp only [Bool.and_eq_true, beq_iff_eq] at hok
  have h1 : ((way.isEmpty || k != 0) && mayN k key val pos l r) = true := by simpa using hok.1
  rw [h1, hok.2]
  clear hok h1
  have H1 := H.below b1
  have hi1 := hi.below b1
  have O1 : Only gb w w1 := Only.of_below b1
  rcases may_kind hm with rfl | ⟨rfl, h2, h3⟩ | rfl
  · have : key.length ≤ 32 ∧ val.length ≤ 4096 := by
      unfold mayN at hm
      simp at hm
      simp [hm]
    exact ggood9_0 w w1 base gb nb wd root x d pos l r way key val A B o sb vL vB li ci H1 hi1 hc hL O1 hg hn this.1 this.2 hwl kn _ _ _ _ _ _ _ _ _ _ _ _ _ _ _ _ _ _ _ _ _ _ _ _ _ _ _ _ _ _ _ _ _ _ _ _ _ _ _ _ _ _ _ _ _ _ _ _ _ _ _ _ _ _ _ _ _ _ _ _ _ _ _ _ _ _ _ _ _ _ _ _ _ _ _ _ _ _ _ _ _ _ _ _ _ _ _ _ _ _ _ _ _ _ _ _ _ _ _ _ _ _ _ _ _ _ _ _ _ _ _ _ _ _ _ _ _ _ _ _ _ _ _ _ _ _ _ _ _ _ _ _ _ _ _ _ _ _ _ _ _ _ _ _ _ _ _ _ _ _ _ _ _ _ _ _ _ _ _ _ _ _ _ _ _ _ _ _ _ _ _ _ _ _
  · exact ggood9_1 w w1 base gb nb wd root x d pos l r way key val A B o sb vL vB li ci H1 hi1 hc hL O1 hg hn h2 h3 hwl kn _ _ _ _ _ _ _ _ _ _ _ _ _ _ _ _ _ _ _ _ _ _ _ _ _ _ _ _ _ _ _ _ _ _ _ _ _ _ _ _ _ _ _ _ _ _ _ _ _ _ _ _ _ _ _ _ _ _ _ _ _ _ _ _ _ _ _ _ _ _ _ _ _ _ _ _ _ _ _ _ _ _ _ _ _ _ _ _ _ _ _ _ _ _ _ _ _ _ _ _ _ _ _ _ _ _ _ _ _ _ _ _ _ _ _ _ _ _ _ _ _ _ _ _ _ _ _ _ _ _ _ _ _ _ _ _ _ _ _ _ _ _ _ _ _ _ _ _ _ _ _ _ _ _ _ _ _ _ _ _ _ _ _ _ _ _ _ _ _ _ _ _ _ _
  · have : key.length ≤ 32 ∧ val.length ≤ 4096 := by
      unfold mayN at hm
      simp at hm
      simp [hm]
    exact ggood9_2 w w1 base gb nb wd root x d pos l r way key val A B o sb vL vB li ci H1 hi1 hc hL O1 hg hn this.1 this.2 hwl kn _ _ _ _ _ _ _ _ _ _ _ _ _ _ _ _ _ _ _ _ _ _ _ _ _ _ _ _ _ _ _ _ _ _ _ _ _ _ _ _ _ _ _ _ _ _ _ _ _ _ _ _ _ _ _ _ _ _ _ _ _ _ _ _ _ _ _ _ _ _ _ _ _ _ _ _ _ _ _ _ _ _ _ _ _ _ _ _ _ _ _ _ _ _ _ _ _ _ _ _ _ _ _ _ _ _ _ _ _ _ _ _ _ _ _ _ _ _ _ _ _ _ _ _ _ _ _ _ _ _ _ _ _ _ _ _ _ _ _ _ _ _ _ _ _ _ _ _ _ _ _ _ _ _ _ _ _ _ _ _ _ _ _ _ _ _ _ _ _ _ _ _ _ _
end
end Go.Proofs.YtmhllihedejehaaGreat
