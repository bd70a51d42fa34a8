import Derived.Test.YthhpkjmhcolgfaaGreatDoorM12
namespace Go.Proofs.YthhpkjmhcolgfaaGreatDoor
open Go.RowKit
set_option linter.unusedVariables false
set_option linter.unusedSimpArgs false
set_option maxRecDepth 20000
set_option maxHeartbeats 8000000
theorem sign_one {k : Nat} {s0 : Key} (h : signL[k]? = some s0) : 1 ≤ s0.length ∧ s0.length ≤ 2 := by
 have : ∀ g ∈ signL, 1 ≤ g.length ∧ g.length ≤ 2 := by decide
 exact this s0 (List.mem_of_getElem? h)
theorem pre_len {s t : Key} (h : s.isPrefixOf t = true) : s.length ≤ t.length := (List.isPrefixOf_iff_prefix.1 h).length_le
theorem byte_nat {i j : Nat} (h : ((j : Int) == (i : Int)) = true) : j = i := by
 have := eq_of_beq h;omega
theorem nat_ne {i j : Nat} (h : ((j : Int) == (i : Int)) = false) : j ≠ i := fun e => by subst e; simp at h
def SgI (r : Key) (i k j : Nat) (n : Nat) : Prop :=
 (j = i ∧ signL.find? (fun g => decide (r.take g.length = g)) = (signL.drop k).find? (fun g => decide (r.take g.length = g))) ∨ ∃ g, signL.find? (fun g => decide (r.take g.length = g)) = some g ∧ j = i + g.length ∧ i < j ∧ j ≤ n
theorem rpre_take {s r : Key} : s.isPrefixOf r = decide (r.take s.length = s) := by
 rw [Bool.eq_iff_iff, List.isPrefixOf_iff_prefix, decide_eq_true_eq];exact ⟨fun h => (List.prefix_iff_eq_take.1 h).symm, fun h => List.prefix_iff_eq_take.2 h.symm⟩
theorem sign_at {r : Key} {k : Nat} {s0 : Key} (h : signL[k]? = some s0) : (signL.drop k).find? (fun g => decide (r.take g.length = g)) = if s0.isPrefixOf r then some s0 else (signL.drop (k + 1)).find? (fun g => decide (r.take g.length = g)) := by
 obtain ⟨h1, h2⟩ := List.getElem?_eq_some_iff.1 h;rw [List.drop_eq_getElem_cons h1, h2, List.find?_cons, ← rpre_take];cases s0.isPrefixOf r <;> rfl
theorem sign_hit {r : Key} {i j k n : Nat} {s0 : Key} (hsg : SgI r i k j n) (hji : j = i) (h : signL[k]? = some s0) (hp : s0.isPrefixOf r = true) : signL.find? (fun g => decide (r.take g.length = g)) = some s0 := by
 rcases hsg with ⟨_, q⟩ | ⟨g, _, _, q, _⟩
 ·rw [q, sign_at h, hp]; rfl
 ·omega
theorem sign_miss {r : Key} {i j k n : Nat} {s0 : Key} (hsg : SgI r i k j n) (hji : j = i) (h : signL[k]? = some s0) (hp : s0.isPrefixOf r = false) : signL.find? (fun g => decide (r.take g.length = g)) = (signL.drop (k + 1)).find? (fun g => decide (r.take g.length = g)) := by
 rcases hsg with ⟨_, q⟩ | ⟨g, _, _, q, _⟩
 ·rw [q, sign_at h, hp]; rfl
 ·omega
def SgE (r : Key) (i j n : Nat) : Prop := (j = i ∧ signL.find? (fun g => decide (r.take g.length = g)) = none) ∨ ∃ g, signL.find? (fun g => decide (r.take g.length = g)) = some g ∧ j = i + g.length ∧ i < j ∧ j ≤ n
theorem sign_end {r : Key} {i j k n : Nat} (hsg : SgI r i k j n) (h : 23 ≤ k ∨ j ≠ i) : SgE r i j n := by
 rcases hsg with ⟨h1, q⟩ | q
 ·rcases h with h | h
  ·refine .inl ⟨h1, ?_⟩;rw [q, List.drop_eq_nil_of_le (by have : signL.length = 23 := rfl; omega)];rfl
  ·exact absurd h1 h
 ·exact .inr q
theorem below_base {w w' : World} {n : Nat} (h : Below w.heap.size w w') (hn : n ≤ w.heap.size) : Below n w w' := ⟨h.os, h.tape, h.output, h.size, fun k hk => h.block k (by omega)⟩
theorem sign_loop {Q : Exit → Act → World → Prop} {A : Act} {wO : World} (text : Key) (c : C4) (b at_ : Nat) (kd : Int) (tx : Key) (n lv : Int) (kb : Blk wO b (pC text at_ kd tx n lv 0 c) 48) (hlen : text.length ≤ 2048) (x i : Nat) (hx : WordsAt x signL wO) (hi : i ≤ text.length) (F : Fm 273 [(7, .int .i64 (0 : Nat)), (6, .slice (some ⟨x, 0, none⟩) 23 23), (3, .int .i64 (i : Nat)), (2, .int .i64 (i : Nat)), (0, ptr b)] A) (hQ : ∀ ch (A A' : Act) w, A.defers = A'.defers → Q (.panic ch) A w → Q (.panic ch) A' w) (hK : ∀ A' w (j : Nat), Fm 273 [(3, .int .i64 (j : Nat)), (2, .int .i64 (i : Nat)), (0, ptr b)] A' → Below wO.heap.size wO w → Blk w b (pC text at_ kd tx n lv 0 c) 48 → SgE (text.drop i) i j text.length → Q .normal A' w) : (blkOf Tryz.f15 5).wp Tryz.prog Q A wO := by
 refine wp_block ?_;have hw0 := Nat.le_refl wO.heap.size;refine wp_loop (fun A w => ∃ k j : Nat, k ≤ 23 ∧ Fm 273 [(7, .int .i64 (k : Nat)), (6, .slice (some ⟨x, 0, none⟩) 23 23), (3, .int .i64 (j : Nat)), (2, .int .i64 (i : Nat)), (0, ptr b)] A ∧ Below wO.heap.size wO w ∧ Blk w b (pC text at_ kd tx n lv 0 c) 48 ∧ WordsAt x signL w ∧ SgI (text.drop i) i k j text.length) (fun A _ => 23 - (intOf (A.eval (.tmp 7))).toNat) ?_ ?_
 ·exact ⟨0, i, by omega, F, Below.refl _ _, kb, hx, .inl ⟨rfl, rfl⟩⟩
 rintro A w ⟨k, j, hk, F, hB, kb, hx, hsg⟩;have hA : A.eval (.tmp 7) = .int .i64 (k : Int) := F.2.2 7 _ rfl;have hBs := hB.size;refine sq (sq (rg ?_));refine mv F fun A F=>?_;refine mv F fun A F=>?_;refine sw_len F ⟨rfl, rfl, rfl⟩ rfl Tryz.underlying38 rfl fun A F => ?_;refine lsi F fun A F=>?_;refine mv F fun A F=>?_
 cases c1 : (decide ((k : Int) < ((23 : Nat) : Int))) with
 | true =>
  rw [c1] at F;have hk23 : k < 23 := by have := of_decide_eq_true c1; omega
  obtain ⟨s0, hget⟩ : ∃ s0, signL[k]? = some s0 := ⟨_, List.getElem?_eq_getElem (by have : signL.length = 23 := rfl; omega)⟩;have hcell : w.cell? ⟨x, 0 + k * 1, none⟩ = some (.string (str s0)) := by rw [Nat.zero_add, Nat.mul_one]; exact hx.2 k s0 hget
  have hs0 := sign_one hget;refine on' F 4 ?_;refine mv F fun A F=>?_;refine on' F 4 ?_;refine mv F fun A F=>?_;refine on' F 4 ?_;refine eqi F fun A F=>?_;refine pkT F fun A F=>?_;refine en (cd F (fun hc2=>?_) fun hc2=>?_)
  ·have hji := hc2;refine wp_skip (sq ?_);refine wp_block ?_;refine sq ?_;refine wp_region_held (S := fun w' => w'.cell? ⟨b, 0, none⟩ = some (.string (str text)) ∧ w'.cell? ⟨x, 0 + k * 1, none⟩ = some (.string (str s0))) (by kernel_rfl) ?_;show wpAnyH _ _ _ _ _ _ _ _ w.drew;have hS : w.drew.cell? ⟨b, 0, none⟩ = some (.string (str text)) ∧ w.drew.cell? ⟨x, 0 + k * 1, none⟩ = some (.string (str s0)) := ⟨(kb.cell 0).trans rfl, hcell⟩;refine sd_move F 0 rfl ⟨rfl, rfl, rfl⟩ rfl (by kernel_rfl) (by kernel_rfl) (by kernel_rfl) (fun c a w h => by simp only [Exit.then, Exit.inBlock] at h ⊢; exact hQ c _ a w (by rfl) h) rfl hS fun A F => ?_;refine sd_nil F 1 rfl ⟨rfl, rfl, rfl⟩ rfl (by kernel_rfl) (by kernel_rfl) (by kernel_rfl) (fun c a w h => by simp only [Exit.then, Exit.inBlock] at h ⊢; exact hQ c _ a w (by rfl) h) rfl hS fun A F => ?_;refine sd_fld F 2 0 rfl ⟨rfl, rfl, rfl⟩ rfl (by kernel_rfl) rfl (by kernel_rfl) (by kernel_rfl) (by kernel_rfl) (fun c a w h => by simp only [Exit.then, Exit.inBlock] at h ⊢; exact hQ c _ a w (by rfl) h) rfl hS fun A F => ?_;refine sd_cell F 3 rfl ⟨rfl, rfl, rfl⟩ rfl (by kernel_rfl) (fun _ h => h.1) (by kernel_rfl) (by kernel_rfl) (by kernel_rfl) (fun c a w h => by simp only [Exit.then, Exit.inBlock] at h ⊢; exact hQ c _ a w (by rfl) h) rfl hS fun A F => ?_;refine sd_move F 4 rfl ⟨rfl, rfl, rfl⟩ rfl (by kernel_rfl) (by kernel_rfl) (by kernel_rfl) (fun c a w h => by simp only [Exit.then, Exit.inBlock] at h ⊢; exact hQ c _ a w (by rfl) h) rfl hS fun A F => ?_;refine sd_slice1 F 5 rfl ⟨rfl, rfl, rfl⟩ rfl rfl hi Tryz.underlying9 (by kernel_rfl) (by kernel_rfl) (by kernel_rfl) (fun c a w h => by simp only [Exit.then, Exit.inBlock] at h ⊢; exact hQ c _ a w (by rfl) h) rfl hS fun A F => ?_;refine sd_move F 6 rfl ⟨rfl, rfl, rfl⟩ rfl (by kernel_rfl) (by kernel_rfl) (by kernel_rfl) (fun c a w h => by simp only [Exit.then, Exit.inBlock] at h ⊢; exact hQ c _ a w (by rfl) h) rfl hS fun A F => ?_;refine sd_move F 7 rfl ⟨rfl, rfl, rfl⟩ rfl (by kernel_rfl) (by kernel_rfl) (by kernel_rfl) (fun c a w h => by simp only [Exit.then, Exit.inBlock] at h ⊢; exact hQ c _ a w (by rfl) h) rfl hS fun A F => ?_;refine sd_at F 8 1 rfl ⟨rfl, rfl, rfl⟩ rfl rfl hk23 Tryz.underlying38 (by kernel_rfl) (by kernel_rfl) (by kernel_rfl) (by kernel_rfl) (fun c a w h => by simp only [Exit.then, Exit.inBlock] at h ⊢; exact hQ c _ a w (by rfl) h) rfl hS fun A F => ?_;refine sd_cell F 9 rfl ⟨rfl, rfl, rfl⟩ rfl (by kernel_rfl) (fun _ h => h.2) (by kernel_rfl) (by kernel_rfl) (by kernel_rfl) (fun c a w h => by simp only [Exit.then, Exit.inBlock] at h ⊢; exact hQ c _ a w (by rfl) h) rfl hS fun A F => ?_;refine sd_one 10 rfl (by kernel_rfl) rfl ?_;refine sw_callR (by kernel_rfl) (vs := [.string (str (text.drop i)), .string (str s0)]) (rbegins_any (text.drop i) s0 _ (by have : (text.drop i).length = text.length - i := List.length_drop; omega) (by unfold maxLen; omega)) F ⟨rfl, rfl, rfl⟩ rfl rfl ?_;rintro e w' ⟨rfl, rfl⟩;refine ⟨_, rfl, fun A F => ?_⟩;refine sw_end ⟨hS, ?_⟩;refine sd_asg F 11 rfl ⟨rfl, rfl, rfl⟩ rfl (by kernel_rfl) (by kernel_rfl) (by kernel_rfl) (fun c a w h => by simp only [Exit.then, Exit.inBlock] at h ⊢; exact hQ c _ a w (by rfl) h) rfl hS fun A F => ?_;refine wpAnyH_done (by kernel_rfl) ?_ _;have bD : Below w.heap.size w w.drew := (Below.refl _ _).drew;show Code.wp _ _ _ _ _;refine sq (rg ?_);refine mv F fun A F=>?_;refine en (cd F (fun hc3=>?_) fun hc3=>?_)
   ·have hpre := hc3;refine rg ?_;refine mv F fun A F=>?_;refine mv F fun A F=>?_;refine mv F fun A F=>?_;refine sw_at F 1 ⟨rfl, rfl, rfl⟩ rfl rfl hk23 Tryz.underlying38 (by kernel_rfl) rfl fun A F => ?_;refine sw_ext F hcell ⟨rfl, rfl, rfl⟩ rfl (by kernel_rfl) rfl fun A F => ?_;refine sw_slen F ⟨rfl, rfl, rfl⟩ rfl Tryz.underlying9 rfl fun A F => ?_;have hple := pre_len hpre;have hil : (text.drop i).length = text.length - i := List.length_drop;refine sw_add F ⟨rfl, rfl, rfl⟩ rfl rfl (by omega) rfl fun A F => ?_;refine as1 F fun A F=>?_;refine en (rg ?_);refine mv F fun A F=>?_;refine sw_add F ⟨rfl, rfl, rfl⟩ rfl rfl (by omega) rfl fun A F => ?_;refine as1 F fun A F=>?_;refine sw_end ?_;show _ ∧ _;have hjN : j = i := byte_nat hji;refine ⟨⟨k + 1, i + s0.length, by omega, F.keep [7, 6, 3, 2, 0] rfl, hB.trans (below_base bD hBs), kb.drew, ⟨hx.1, hx.2⟩, .inr ⟨s0, sign_hit hsg hjN hget hpre, rfl, by omega, by have := pre_len hpre; have : (text.drop i).length = text.length - i := List.length_drop; omega⟩⟩, ?_⟩;rw [(F.keep [7, 6, 3, 2, 0] rfl).2.2 7 (.int .i64 ((k + 1 : Nat) : Int)) rfl, hA];simp only [intOf];omega
   have hpre := hc3;refine wp_skip (rg ?_);refine mv F fun A F=>?_;refine sw_add F ⟨rfl, rfl, rfl⟩ rfl rfl (by omega) rfl fun A F => ?_;refine as1 F fun A F=>?_;refine sw_end ?_;show _ ∧ _;have hjN : j = i := byte_nat hji;refine ⟨⟨k + 1, j, by omega, F.keep [7, 6, 3, 2, 0] rfl, hB.trans (below_base bD hBs), kb.drew, ⟨hx.1, hx.2⟩, .inl ⟨hjN, sign_miss hsg hjN hget hpre⟩⟩, ?_⟩;rw [(F.keep [7, 6, 3, 2, 0] rfl).2.2 7 (.int .i64 ((k + 1 : Nat) : Int)) rfl, hA];simp only [intOf];omega
  have hji := hc2;refine wp_exit ?_;repeat (first | refine then_exit ?_ | refine exit_block ?_ | refine exit_pass rfl ?_)
  first | exact hK _ w j (F.keep [3, 2, 0] rfl) hB kb (sign_end hsg (.inl hk23)) | exact hK _ w j (F.keep [3, 2, 0] rfl) hB kb (sign_end hsg (.inr (nat_ne hji)))
 | false =>
  rw [c1] at F;have hk23 : 23 ≤ k := by have := of_decide_eq_false c1; omega
  refine off3 F 4 4 4 fun A F=>?_;refine pkF F fun A F=>?_;refine en (sw_false F rfl ?_);refine wp_exit ?_;repeat (first | refine then_exit ?_ | refine exit_block ?_ | refine exit_pass rfl ?_)
  first | exact hK _ w j (F.keep [3, 2, 0] rfl) hB kb (sign_end hsg (.inl hk23)) | exact hK _ w j (F.keep [3, 2, 0] rfl) hB kb (sign_end hsg (.inr (nat_ne hji)))
theorem nx_fin {text : Key} {i : Nat} (h : text.length ≤ i) (hi : i ≤ text.length) : NX text (text.drop i) i 101 [] 0 0 :=
 NX.ok (nx_end h) (by simp) hi (List.drop_eq_nil_of_le h) rfl trivial rfl
theorem cut_len {text : Key} {i j : Nat} (hij : i ≤ j) (hj : j ≤ text.length) : ((text.take j).drop i).length = j - i := by
 rw [List.length_drop, List.length_take]; omega
theorem word_len {s : Key} (h : wordL.contains s = true) : s.length ≤ 16 := by
 have : ∀ g ∈ wordL, g.length ≤ 16 := by decide
 exact this s (by simpa using h)
section
variable {text : Key} {i j : Nat} {c : UInt8}
theorem nx_name (hget : text[i]? = some c) (hij : i ≤ j) (hj : j ≤ text.length) (hl : isL c = true) (hs : spanN goes (text.drop i) = j - i) (hw : wordL.contains ((text.take j).drop i) = false) (h16 : j - i ≤ 16) : NX text (text.drop i) j 110 ((text.take j).drop i) 0 0 := by
 refine NX.ok (nx_word hget hl hij hs) ?_ hj rfl ?_ ?_ ?_ <;> unfold wordOf <;> rw [if_neg (by rw [hw]; simp), if_pos (by rw [cut_len hij hj]; exact h16)]
 ·simp
 ·rfl
 ·rfl
 ·rfl
theorem nx_long (hget : text[i]? = some c) (hij : i ≤ j) (hj : j ≤ text.length) (hl : isL c = true) (hs : spanN goes (text.drop i) = j - i) (hw : wordL.contains ((text.take j).drop i) = false) (h16 : 16 < j - i) (a : Nat) (k n : Int) (t : Key) : NX text (text.drop i) a k t n 6 := by
 refine NX.err (r' := text.drop j) ?_;rw [nx_word hget hl hij hs];unfold wordOf;rw [if_neg (by rw [hw]; simp), if_neg (by rw [cut_len hij hj]; omega)]
theorem nx_fixed (hget : text[i]? = some c) (hij : i ≤ j) (hj : j ≤ text.length) (hl : isL c = true) (hs : spanN goes (text.drop i) = j - i) (hw : wordL.contains ((text.take j).drop i) = true) : NX text (text.drop i) j 119 ((text.take j).drop i) 0 0 := by
 refine NX.ok (nx_word hget hl hij hs) ?_ hj rfl ?_ ?_ ?_ <;> unfold wordOf <;> rw [if_pos hw]
 ·simp
 ·simp only [tokK, hw, if_true]
 ·exact ⟨rfl, by rw [hw]; rfl⟩
 ·rfl
theorem nx_fixed_len (hij : i ≤ j) (hj : j ≤ text.length) (hw : wordL.contains ((text.take j).drop i) = true) : ¬ 16 < j - i := by
 have := word_len hw;rw [cut_len hij hj] at this;omega
theorem num_head (hget : text[i]? = some c) (hlt : i < j) : ((text.take j).drop i).head? = some c := by
 have : (text.take j)[i]? = some c := by rw [List.getElem?_take_of_lt hlt]; exact hget
 rw [drop_get this];rfl
theorem nx_number (hget : text[i]? = some c) (hij : i ≤ j) (hj : j ≤ text.length) (hl : isL c = false) (hd : isD c = true) (hs : spanN isD (text.drop i) = j - i) (hall : ∀ c ∈ (text.take j).drop i, isD c = true) (hm : dsat ((text.take j).drop i) ≤ 1099511627775) (h0 : ¬ (1 < j - i ∧ c.toNat = 48)) (tx : Key) : NX text (text.drop i) j 48 tx (dsat ((text.take j).drop i)) 0 := by
 have hlt : i < j := by
  have := span_at (f := isD) hget;rw [hd, if_pos rfl] at this;omega
 have hv := dsat_val _ hall
 have e : numberOf ((text.take j).drop i) = .num (dsat ((text.take j).drop i)) := by
  unfold numberOf;rw [if_neg, if_neg]
  ·rw [← hv.2.2.2.1 hm]
  ·rw [← hv.2.2.2.1 hm]; omega
  ·rw [cut_len hij hj, num_head hget hlt];rintro ⟨q1, q2⟩;injection q2 with q2
   exact h0 ⟨q1, by rw [q2]; rfl⟩
 refine NX.ok (t := .num (dsat ((text.take j).drop i))) (r' := text.drop j) ?_ (by simp) hj rfl rfl trivial rfl;rw [nx_num hget hl hd hij hs, e]
theorem nx_number_bad (hget : text[i]? = some c) (hij : i ≤ j) (hj : j ≤ text.length) (hl : isL c = false) (hd : isD c = true) (hs : spanN isD (text.drop i) = j - i) (hall : ∀ c ∈ (text.take j).drop i, isD c = true) (h : 1099511627775 < dsat ((text.take j).drop i) ∨ (1 < j - i ∧ c.toNat = 48)) (a : Nat) (k n : Int) (t : Key) : NX text (text.drop i) a k t n 6 := by
 have hlt : i < j := by
  have := span_at (f := isD) hget;rw [hd, if_pos rfl] at this;omega
 have hv := dsat_val _ hall;refine NX.err (r' := text.drop j) ?_;rw [nx_num hget hl hd hij hs];unfold numberOf;rw [cut_len hij hj, num_head hget hlt]
 by_cases h1 : 1 < j - i ∧ some c = some 48
 ·rw [if_pos h1]
 ·rw [if_neg h1];rcases h with h | ⟨h2, h3⟩
  ·rw [if_pos (hv.2.2.2.2 h)]
  ·refine absurd ⟨h2, ?_⟩ h1;have : c = 48 := UInt8.toNat_inj.1 h3;rw [this]
theorem nx_sgn (hget : text[i]? = some c) (hj : j ≤ text.length) (hl : isL c = false) (hd : isD c = false) (hsg : SgE (text.drop i) i j text.length) (hne : j ≠ i) : NX text (text.drop i) j 115 ((text.take j).drop i) 0 0 := by
 rcases hsg with ⟨h, _⟩ | ⟨g, h1, h2, h3, h4⟩
 ·exact absurd h hne
 ·have hp := List.find?_some h1;have hp : (text.drop i).take g.length = g := by simpa using hp
  have hs : (text.take j).drop i = g := by rw [List.drop_take, show j - i = g.length by omega, hp]
  have hm := List.mem_of_find?_eq_some h1;rw [hs]
  have e : cutT (text.drop i) = (.fixed g, (text.drop i).drop g.length) := by
   rw [nx_sign hget hl hd];unfold signOf;rw [h1]
  refine NX.ok e (by simp) hj (by rw [List.drop_drop, h2]) ?_ ?_ rfl
  ·have : wordL.contains g = false := by
    have q : ∀ g ∈ signL, wordL.contains g = false := by decide
    exact q g hm
   simp only [tokK, this];rfl
  ·exact ⟨rfl, by rw [show signL.contains g = true by simpa using hm, Bool.or_true]⟩
theorem nx_sgn_bad (hget : text[i]? = some c) (hl : isL c = false) (hd : isD c = false) (hsg : SgE (text.drop i) i j text.length) (he : j = i) (a : Nat) (k n : Int) (t : Key) : NX text (text.drop i) a k t n 6 := by
 rcases hsg with ⟨_, h⟩ | ⟨g, h1, h2, h3, h4⟩
 ·refine NX.err (r' := text.drop i) ?_;rw [nx_sign hget hl hd];unfold signOf;rw [h]
 ·omega
end
section
variable {P : Program} {ops : Array Oper} {Q : Exit → Act → World → Prop} {a : Act} {w : World} {rest : List Oper} {o : Oper} {N : Nat} {L : List (Nat × Value)}
theorem sw_setT (F : Fm N L a) {t : TypeId} {x y : Operand} {text tx tx' : Key} {c : C4} {b at_ : Nat} {kd kd' n n' lv e : Int} {ty : TypeId} (h : Is o none (.store t x y)) (hx : opv L x = some (.pointer (some ⟨b, 2, none⟩))) (hv : opv L y = some (.agg ([.int .u8 kd', .string (str tx'), .int .i64 n'] : List Value).toArray)) (kb : Blk w b (pC text at_ kd tx n lv e c) ty) (hi : (P.info? t).map (·.size) = some 3) (K : ∀ w', But (fun k => k = b) w w' → Blk w' b (pC text at_ kd' tx' n' lv e c) ty → wpList P ops Q rest a w') : wpList P ops Q (o :: rest) a w := by
 refine ol_store h.2.2 h.1 h.2.1 (F.ev hx) (F.ev hv) (v := .agg ([.int .u8 kd', .string (str tx'), .int .i64 n'] : List Value).toArray) ?_ hi ?_ ?_
 ·exact kb.thereAt 2 3 (by show 2 + 3 ≤ 11; omega)
 ·intro u hu;simp [Value.cells] at hu;rcases hu with rfl | rfl | rfl <;> rfl
 ·have := kb.putCells [.int .u8 kd', .string (str tx'), .int .i64 n'] 2 _ _;exact K _ (but_cells b _ 2 w) this
end
end Go.Proofs.YthhpkjmhcolgfaaGreatDoor
