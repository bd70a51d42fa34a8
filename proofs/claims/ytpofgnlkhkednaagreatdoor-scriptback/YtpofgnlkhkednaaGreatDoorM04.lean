import Derived.Test.YtpofgnlkhkednaaGreatDoorM03
namespace Go.Proofs.YtpofgnlkhkednaaGreatDoor
open Go.RowKit
set_option linter.unusedVariables false
set_option linter.unusedSimpArgs false
set_option maxRecDepth 20000
set_option maxHeartbeats 8000000
def kindL : List Key := [[], [110, 117, 109], [102, 108, 97, 103], [119, 104, 111]]
def stepL : List Key := [[], [108, 101, 116], [], [], [105, 102], [119, 104, 105, 108, 101], [114, 101, 116, 117, 114, 110], [110, 101, 101, 100], [112, 97, 121], [110, 111, 116, 101], [97, 115, 107]]
def exprL : List Key := [[], [], [], [], [], [], [111, 114], [97, 110, 100], [110, 111, 116], [61, 61], [33, 61], [60], [60, 61], [62], [62, 61], [43], [45], [42], [47], [37], [115, 101, 108, 102], [99, 97, 108, 108, 101, 114], [118, 97, 108, 117, 101], [104, 101, 105, 103, 104, 116], [98, 97, 108, 97, 110, 99, 101], [119, 104, 111], [110, 117, 109]]
def formL : List (Bool × Int) := [(false, 0), (false, 0), (false, 0), (true, 0), (true, 1), (true, (-1)), (false, 2), (false, 2), (false, 1), (false, 2), (false, 2), (false, 2), (false, 2), (false, 2), (false, 2), (false, 2), (false, 2), (false, 2), (false, 2), (false, 2), (false, 0), (false, 0), (false, 0), (false, 0), (false, 1), (false, 1), (false, 1)]
def flatF : List (Bool × Int) → List Value
 | [] => []
 | (x, n) :: r => .bool x :: .int .i64 n :: flatF r
def sv (l : List Key) : List Value := l.map fun s => Value.string (str s)
def tabV : Nat → List Value
 | 1 => sv signL
 | 0 => sv kindL
 | 4 => sv stepL
 | 3 => flatF formL
 | 5 => sv exprL
 | _ => []
structure Gl (w : World) : Prop where
 sz : 9 ≤ w.heap.size
 tab : ∀ g, g < 9 → w.rangeAt g 0 (tabV g)
theorem Gl.signs {w : World} (h : Gl w) : w.rangeAt 1 0 (signL.map fun s => Value.string (str s)) := h.tab 1 (by omega)
theorem Gl.below {w w' : World} (h : Gl w) (hb : Below w.heap.size w w') : Gl w' :=
 ⟨Nat.le_trans h.sz hb.size, fun g hg j v hv => by rw [hb.cell (p := ⟨g, 0 + j, none⟩) (Nat.lt_of_lt_of_le (by show g < 9; omega) h.sz)]; exact h.tab g hg j v hv⟩
theorem spanN_take (f : UInt8 → Bool) : ∀ s : Key, spanN f (s.take (spanN f s)) = spanN f s
 | [] => rfl
 | c :: r => by
  by_cases h : f c = true
  ·have ih := spanN_take f r;simp [spanN, h, ih]
  ·simp [spanN, h]
def CutE (s : Key) (w : World) (e : Ending) (w' : World) : Prop := e = .returned (.tuple #[(cutT s).1.val, .string (str (cutT s).2)]) ∧ Below w.heap.size w w'
theorem cut_letter (c : UInt8) (q : Key) (w : World) (hl : q.length < 2048) (hc : isL c = true) : Calls Tryz.prog 15 #[.string (str (c :: q))] w (CutE (c :: q) w) := by
 have hsp : ∃ n, spanN goes (c :: q) = n + 1 ∧ n ≤ q.length := by
  have hg : goes c = true := by simp [goes, hc]
  exact ⟨spanN goes q, by simp [spanN, hg], spanN_le _ _⟩
 obtain ⟨n, hn, hnl⟩ := hsp;have sz := str_size (c :: q);simp only [List.length_cons] at sz;have h0 : (str (c :: q)).toList = c :: q := str_toList _;have hne : ((c :: q : Key) == []) = false := by simp
 have e0 : ∀ hgx, (str (c :: q))[0]'hgx = c := fun hgx => str_get (c :: q) 0 (by simp) hgx;have K1 := fun w' => letter_any c w';rw [hc] at K1;have K2 := fun w' => span_goes (c :: q) w' (by simp; omega);rw [hn] at K2;have hx1 : (str (c :: q)).extract 0 (n + 1) = str (c :: q.take n) := (str_take (c :: q) (n + 1)).trans rfl;have hx2 := str_drop (c :: q) (n + 1);simp only [List.length_cons, List.drop_succ_cons] at hx2
 have K3 := fun w' => wordOf_any c (q.take n) w' (by simp; omega) hc (by
  have := spanN_take goes (c :: q);rw [hn] at this;simp only [List.take_succ_cons] at this
  rw [this]; simp; omega)
 have HR : Hid (cutT (c :: q) = (wordOf (c :: q.take n), q.drop n)) := by
  show _ = _;rw [cutT, if_pos hc, hn]; rfl
 have hle : (n : Int) + 1 ≤ (q.length : Int) + 1 := by omega
 have hn0 : (0 : Int) ≤ (n : Int) + 1 := by omega
 have kA := Blk.new w #[.int .i64 0, .string ⟨#[]⟩, .int .i64 0] 36;have bA : Below w.heap.size w (w.alloc (.cells #[.int .i64 0, .string ⟨#[]⟩, .int .i64 0] 36)) := (Below.refl _ _).alloc (Nat.le_refl _) _
 go_enter Tryz.func15, Tryz.ntmps15
 go_wp2_with fail
 refine (K1 _).mono ?_;rintro e w1 ⟨rfl, rfl⟩
 go_wp2_with fail
 refine (K2 _).mono ?_;rintro e w1 ⟨rfl, b1⟩;have k1 := kA.below b1 kA.lt;have b01 := bA.trans (b1.mono bA.size)
 generalize (wordOf (c :: q.take n)) = tk1 at *
 go_wp2_with fail
 refine wp_region_held_drew (S := fun _ => True) (by kernel_rfl) trivial (fun hHeld => ?_);refine tk 0 ?_;refine tk 1 ?_;refine tk 2 ?_;refine tk 4 ?_;refine tk 5 ?_;refine tk 6 ?_;refine wpAnyH_ready (rs := [3]) (by kernel_rfl) (by simp) ?_;refine AllReadyH.cons rfl (fun K hK => ?_) AllReadyH.nil
 go_simp
 refine (K3 _).mono ?_;rintro e w2 ⟨rfl, b2⟩;have k2 := k1.drew.below b2 k1.drew.lt;have b02 := b01.drew.trans (b2.mono b01.drew.size);refine hK.out _ _ trivial (fun hHeld2 => ?_);clear hK K;refine wpAnyH_ready (rs := [7]) (by kernel_rfl) (by simp) ?_;refine AllReadyH.cons rfl (fun K hK => ?_) AllReadyH.nil;obtain ⟨zA, c0, c1, c2, f0, f1, f2⟩ := k2.three;unfold Tok.val
 go_simp
 refine hK.out _ _ trivial (fun hHeld3 => ?_);clear hK K;refine tk 8 ?_;refine wpAnyH_done (by kernel_rfl) ?_ _;have k3 := ((k2.set 0 (.int .i64 tk1.class)).set 1 (.string (str tk1.text))).set 2 (.int .i64 tk1.n);have b3 := ((b02.setCell (p := ⟨w.heap.size, 0, none⟩) (Nat.le_refl _) (.int .i64 tk1.class)).setCell (p := ⟨w.heap.size, 1, none⟩) (Nat.le_refl _) (.string (str tk1.text))).setCell (p := ⟨w.heap.size, 2, none⟩) (Nat.le_refl _) (.int .i64 tk1.n)
 generalize ((w2.setCell ⟨w.heap.size, 0, none⟩ (.int .i64 tk1.class)).setCell ⟨w.heap.size, 1, none⟩ (.string (str tk1.text))).setCell ⟨w.heap.size, 2, none⟩ (.int .i64 tk1.n) = w3 at *
 go_wp2
 exact ret_box2 Tryz.results15 rfl rfl rfl (by kernel_rfl) (by kernel_rfl) k3 ⟨by rw [HR.out]; rfl, b3⟩
theorem cut_digit (c : UInt8) (q : Key) (w : World) (hl : q.length < 2048) (hc0 : isL c = false) (hc : isD c = true) : Calls Tryz.prog 15 #[.string (str (c :: q))] w (CutE (c :: q) w) := by
 have hsp : ∃ n, spanN isD (c :: q) = n + 1 ∧ n ≤ q.length := by
  exact ⟨spanN isD q, by simp [spanN, hc], spanN_le _ _⟩
 obtain ⟨n, hn, hnl⟩ := hsp;have sz := str_size (c :: q);simp only [List.length_cons] at sz;have h0 : (str (c :: q)).toList = c :: q := str_toList _;have hne : ((c :: q : Key) == []) = false := by simp
 have e0 : ∀ hgx, (str (c :: q))[0]'hgx = c := fun hgx => str_get (c :: q) 0 (by simp) hgx;have K0 := fun w' => letter_any c w';rw [hc0] at K0;have K1 := fun w' => digit_any c w';rw [hc] at K1;have K2 := fun w' => span_isD (c :: q) w' (by simp; omega);rw [hn] at K2;have hx1 : (str (c :: q)).extract 0 (n + 1) = str (c :: q.take n) := (str_take (c :: q) (n + 1)).trans rfl;have hx2 := str_drop (c :: q) (n + 1);simp only [List.length_cons, List.drop_succ_cons] at hx2
 have K3 := fun w' => numberOf_any c (q.take n) w' (by simp; omega) (by
  have := spanN_take isD (c :: q);rw [hn] at this;simp only [List.take_succ_cons] at this
  rw [this]; simp; omega)
 have HR : Hid (cutT (c :: q) = (numberOf (c :: q.take n), q.drop n)) := by
  show _ = _;rw [cutT, if_neg (by simp [hc0]), if_pos hc, hn]; rfl
 have hle : (n : Int) + 1 ≤ (q.length : Int) + 1 := by omega
 have hn0 : (0 : Int) ≤ (n : Int) + 1 := by omega
 have kA := Blk.new w #[.int .i64 0, .string ⟨#[]⟩, .int .i64 0] 36;have bA : Below w.heap.size w (w.alloc (.cells #[.int .i64 0, .string ⟨#[]⟩, .int .i64 0] 36)) := (Below.refl _ _).alloc (Nat.le_refl _) _
 go_enter Tryz.func15, Tryz.ntmps15
 go_wp2_with fail
 refine (K0 _).mono ?_;rintro e w1 ⟨rfl, rfl⟩
 go_wp2_with fail
 refine (K1 _).mono ?_;rintro e w1 ⟨rfl, rfl⟩
 go_wp2_with fail
 refine (K2 _).mono ?_;rintro e w1 ⟨rfl, b1⟩;have k1 := kA.below b1 kA.lt;have b01 := bA.trans (b1.mono bA.size)
 generalize (numberOf (c :: q.take n)) = tk1 at *
 go_wp2_with fail
 refine wp_region_held_drew (S := fun _ => True) (by kernel_rfl) trivial (fun hHeld => ?_);refine tk 0 ?_;refine tk 1 ?_;refine tk 2 ?_;refine tk 4 ?_;refine tk 5 ?_;refine tk 6 ?_;refine wpAnyH_ready (rs := [3]) (by kernel_rfl) (by simp) ?_;refine AllReadyH.cons rfl (fun K hK => ?_) AllReadyH.nil
 go_simp
 refine (K3 _).mono ?_;rintro e w2 ⟨rfl, b2⟩;have k2 := k1.drew.below b2 k1.drew.lt;have b02 := b01.drew.trans (b2.mono b01.drew.size);refine hK.out _ _ trivial (fun hHeld2 => ?_);clear hK K;refine wpAnyH_ready (rs := [7]) (by kernel_rfl) (by simp) ?_;refine AllReadyH.cons rfl (fun K hK => ?_) AllReadyH.nil;obtain ⟨zA, c0, c1, c2, f0, f1, f2⟩ := k2.three;unfold Tok.val
 go_simp
 refine hK.out _ _ trivial (fun hHeld3 => ?_);clear hK K;refine tk 8 ?_;refine wpAnyH_done (by kernel_rfl) ?_ _;have k3 := ((k2.set 0 (.int .i64 tk1.class)).set 1 (.string (str tk1.text))).set 2 (.int .i64 tk1.n);have b3 := ((b02.setCell (p := ⟨w.heap.size, 0, none⟩) (Nat.le_refl _) (.int .i64 tk1.class)).setCell (p := ⟨w.heap.size, 1, none⟩) (Nat.le_refl _) (.string (str tk1.text))).setCell (p := ⟨w.heap.size, 2, none⟩) (Nat.le_refl _) (.int .i64 tk1.n)
 generalize ((w2.setCell ⟨w.heap.size, 0, none⟩ (.int .i64 tk1.class)).setCell ⟨w.heap.size, 1, none⟩ (.string (str tk1.text))).setCell ⟨w.heap.size, 2, none⟩ (.int .i64 tk1.n) = w3 at *
 go_wp2
 exact ret_box2 Tryz.results15 rfl rfl rfl (by kernel_rfl) (by kernel_rfl) k3 ⟨by rw [HR.out]; rfl, b3⟩
theorem cut_nil (w : World) : Calls Tryz.prog 15 #[.string (str [])] w (CutE [] w) := by
 have h0 : (str ([] : Key)).toList = [] := str_toList _
 go_enter Tryz.func15, Tryz.ntmps15
 go_wp2
 exact ret_box2 Tryz.results15 rfl rfl rfl (by kernel_rfl) (by kernel_rfl) (Blk.new _ _ _) ⟨rfl, (Below.refl _ _).alloc (Nat.le_refl _) _⟩
theorem run_index1 {P : Program} {w : World} {xt el : TypeId} {n i : Nat} {A : Array Value} {v : Value} {d : TypeDesc} (hu : P.underlying xt = some (.array n el)) (he : P.underlying el = some d) (hd : d.isRow = false) (hs : (P.info? el).map (·.size) = some 1) (hA : A[i]? = some v) (hi : i < n) :
  (Instr.index xt (.agg A) (.int .i64 i)).run P w = .ok v w := by
 have hagg : (isAgg el).run P w = .ok false w := by
  unfold isAgg;rw [Sem.run_bind, run_underlying he w];cases d <;> simp_all [TypeDesc.isRow]
 cases hq : P.info? el with
 | none => simp [hq] at hs
 | some q =>
  have hs : q.size = 1 := by simpa [hq] using hs
  simp [Instr.index, Sem.run_bind, run_underlying hu, asIntOf, sizeOf, typeInfo, hq, hs, part, hagg, hA];intro h; omega
theorem pre_take (s g : Key) : g.isPrefixOf s = decide (s.take g.length = g) := by
 rw [Bool.eq_iff_iff, List.isPrefixOf_iff_prefix, decide_eq_true_iff];exact ⟨fun h => (List.prefix_iff_eq_take.1 h).symm, fun h => by rw [← h]; exact List.take_prefix _ _⟩
theorem cut_sign (c : UInt8) (q : Key) (w : World) (hl : q.length < 2048) (hc0 : isL c = false) (hc : isD c = false) (g : Gl w) : Calls Tryz.prog 15 #[.string (str (c :: q))] w (CutE (c :: q) w) := by
 have sz := str_size (c :: q);simp only [List.length_cons] at sz;have h0 : (str (c :: q)).toList = c :: q := str_toList _;have hne : ((c :: q : Key) == []) = false := by simp
 have e0 : ∀ hgx, (str (c :: q))[0]'hgx = c := fun hgx => str_get (c :: q) 0 (by simp) hgx;have K0 := fun w' => letter_any c w';rw [hc0] at K0;have K1 := fun w' => digit_any c w';rw [hc] at K1;have kA := Blk.new w #[.int .i64 0, .string ⟨#[]⟩, .int .i64 0] 36;have bA : Below w.heap.size w (w.alloc (.cells #[.int .i64 0, .string ⟨#[]⟩, .int .i64 0] 36)) := (Below.refl _ _).alloc (Nat.le_refl _) _;have gA := g.below bA
 go_enter Tryz.func15, Tryz.ntmps15
 go_wp2_with fail
 refine (K0 _).mono ?_;rintro e w1 ⟨rfl, rfl⟩
 go_wp2_with fail
 refine (K1 _).mono ?_;rintro e w1 ⟨rfl, rfl⟩
 generalize w.alloc (.cells #[.int .i64 0, .string ⟨#[]⟩, .int .i64 0] 36) = W at *
 go_upto_region 9 with fail
 refine wp_region_list ?_;refine wpList_load_mid rfl 84 _ rfl 1 0 rfl (signL.map fun s => Value.string (str s)) _ gA.signs Tryz.underlying84 rfl (by kernel_rfl) ?_;obtain ⟨A, HA⟩ : ∃ A : Array Value, Hid (A = (signL.map fun s => Value.string (str s)).toArray) := ⟨_, rfl⟩;rw [← HA.out];refine wpList_plain rfl (fun K hK => ?_)
 go_simp
 refine hK _ _ ?_;clear hK K;refine wpList_nil ?_
 go_wp2_with fail
 have HS : Hid (cutT (c :: q) = signOf (c :: q)) := by
  show _ = _;rw [cutT, if_neg (by simp [hc0]), if_neg (by simp [hc])]
 obtain ⟨p, Hp⟩ : ∃ p : Key → Bool, Hid (p = fun g => decide ((c :: q).take g.length = g)) := ⟨_, rfl⟩
 go_loopw [36] (fun iv wv => ∃ i : Nat, i ≤ 23 ∧ iv = .int .i64 i ∧ Hid (signL.find? p = (signL.drop i).find? p) ∧ Blk wv w.heap.size #[.int .i64 0, .string ⟨#[]⟩, .int .i64 0] 36 ∧ Below w.heap.size w wv) (fun iv _ => 23 - (intOf iv).toNat)
 case atStart => exact ⟨0, by omega, rfl, rfl, kA, bA⟩
 case round =>
  obtain ⟨i, hi, rfl, HF, kB, bB⟩ := hrel
  by_cases hlt : i < 23
  ·have hlt' : (i : Int) < 23 := by omega
   obtain ⟨g1, hg1⟩ : ∃ g1, signL[i]? = some g1 := ⟨_, List.getElem?_eq_getElem (by simpa [signL] using hlt)⟩;have hA : A[i]? = some (.string (str g1)) := by rw [HA.out]; simp [hg1]
   have hAs : A.size = 23 := by rw [HA.out]; simp [signL]
   have hg2 : g1.length ≤ 2 := by
    have hm := List.mem_of_getElem? hg1;have : ∀ x ∈ signL, x.length ≤ 2 := by decide
    exact this g1 hm
   have HD : Hid (signL.drop i = g1 :: signL.drop (i + 1)) := by
    show _ = _;obtain ⟨h1, h2⟩ := List.getElem?_eq_some_iff.1 hg1;rw [List.drop_eq_getElem_cons h1, h2]
   have KP := fun w' => hasPre_any (c :: q) g1 w' (by unfold maxLen; omega);have hix := fun w' => run_index1 (P := Tryz.prog) (w := w') (xt := 84) (el := 9) (n := 23) Tryz.underlying84 Tryz.underlying9 rfl (by kernel_rfl) hA hlt;clear hg1 hA
   go_wp2_with fail
   refine (KP _).mono ?_;rintro e w2 ⟨rfl, rfl⟩
   cases hp : g1.isPrefixOf (c :: q) with
   | false =>
    have HF' : Hid (signL.find? p = (signL.drop (i + 1)).find? p) := by
     show _ = _;rw [HF.out, HD.out, List.find?_cons_of_neg];rw [Hp.out];show ¬ decide _ = true;rw [← pre_take, hp]; simp
    clear HF HD
    go_wp2
    exact ⟨⟨i + 1, hlt, by go_num, HF', by first | exact kB | exact kB.drew, by first | exact bB | exact bB.drew⟩, by simp [intOf]; omega⟩
   | true =>
    have HR : Hid (signOf (c :: q) = (.fixed g1, (c :: q).drop g1.length)) := by
     have h1 : signL.find? p = some g1 := by
      rw [HF.out, HD.out, List.find?_cons_of_pos];rw [Hp.out];show decide _ = true;rw [← pre_take, hp]
     rw [Hp.out] at h1;show _ = _;unfold signOf;rw [h1]
    have hgl : g1.length ≤ q.length + 1 := by
     have := (List.isPrefixOf_iff_prefix.1 hp).length_le
     simpa using this
    have hgl' : (g1.length : Int) ≤ (q.length : Int) + 1 := by omega
    have sz1 := str_size g1;have hx := str_drop (c :: q) g1.length;simp only [List.length_cons] at hx;clear HF HD Hp HA
    go_wp2_with fail
    refine wp_region_held_drew (S := fun _ => True) (by kernel_rfl) trivial (fun hHeld => ?_);refine tk 0 ?_;refine tk 1 ?_;refine tk 2 ?_;refine tk 3 ?_;refine tk 4 ?_;refine tk 5 ?_;refine wpAnyH_ready (rs := [6]) (by kernel_rfl) (by simp) ?_;refine AllReadyH.cons rfl (fun K hK => ?_) AllReadyH.nil;have kC := kB.drew;have bC := bB.drew
    generalize wr.drew = wd at *
    obtain ⟨zA, c0, c1, c2, f0, f1, f2⟩ := kC.three
    go_simp
    refine hK.out _ _ trivial (fun hHeld3 => ?_);clear hK K;refine tk 7 ?_;refine wpAnyH_done (by kernel_rfl) ?_ _
    go_wp2
    exact ret_box2 Tryz.results15 rfl rfl rfl (by kernel_rfl) (by kernel_rfl) (((kC.set 0 _).set 1 _).set 2 _) ⟨by rw [HS.out, HR.out]; rfl, ((bC.setCell (Nat.le_refl _) _).setCell (Nat.le_refl _) _).setCell (Nat.le_refl _) _⟩
  ·have hge : ¬ (i : Int) < 23 := by omega
   have HR : Hid (signOf (c :: q) = (.none, c :: q)) := by
    have h1 : signL.find? p = none := by rw [HF.out, show i = 23 by omega]; rfl
    rw [Hp.out] at h1;show _ = _;unfold signOf;rw [h1]
   obtain ⟨zA, c0, c1, c2, f0, f1, f2⟩ := kB.three;clear HF Hp HA
   go_wp2
   exact ret_box2 Tryz.results15 rfl rfl rfl (by kernel_rfl) (by kernel_rfl) (((kB.set 0 _).set 1 _).set 2 _) ⟨by rw [HS.out, HR.out]; rfl, ((bB.setCell (Nat.le_refl _) _).setCell (Nat.le_refl _) _).setCell (Nat.le_refl _) _⟩
theorem cut_any (s : Key) (w : World) (hl : s.length ≤ 2048) (g : Gl w) : Calls Tryz.prog 15 #[.string (str s)] w (CutE s w) := by
 cases s with
 | nil => exact cut_nil w
 | cons c q =>
  have hq : q.length < 2048 := by simp only [List.length_cons] at hl; omega
  cases h1 : isL c with
  | true => exact cut_letter c q w hq h1
  | false =>
   cases h2 : isD c with
   | true => exact cut_digit c q w hq h1 h2
   | false => exact cut_sign c q w hq h1 h2 g
structure St where
 rest : Key
 now : Tok
 lv : Int
abbrev ES := Except Int St
def Tok.ok : Tok → Prop
 | .num n => 0 ≤ n ∧ n ≤ 1099511627775
 | _ => True
def Sound (σ : St) : Prop := σ.rest.length ≤ 2048 ∧ σ.now.ok
abbrev PM (α : Type) := St → Except Int (α × St)
def pur {α : Type} (x : α) : PM α := fun σ => .ok (x, σ)
def bnd {α β : Type} (F : PM α) (G : α → PM β) : PM β := fun σ =>
 match F σ with
 | .error e => .error e
 | .ok (x, τ) => G x τ
def Rel {α : Type} (F : PM α) (S : ES) (x : α) (S' : ES) : Prop :=
 match S with
 | .error e => S' = .error e
 | .ok σ =>
  match F σ with
  | .error e => S' = .error e
  | .ok (y, τ) => x = y ∧ S' = .ok τ
theorem Rel.pur {α : Type} (x : α) (S : ES) : Rel (pur x) S x S := by
 cases S with
 | error e => rfl
 | ok σ => exact ⟨rfl, rfl⟩
theorem Rel.bind {α β : Type} {F : PM α} {G : α → PM β} {S S1 S2 : ES} {x : α} {y : β} (h : Rel F S x S1) (g : Rel (G x) S1 y S2) : Rel (bnd F G) S y S2 := by
 cases S with
 | error e =>
  have h : S1 = .error e := h;subst h;exact g
 | ok σ =>
  unfold Rel at h ⊢;simp only [bnd] at h ⊢
  cases hF : F σ with
  | error e =>
   rw [hF] at h;simp only at h ⊢;subst h;exact g
  | ok p =>
   obtain ⟨z, τ⟩ := p;rw [hF] at h;simp only at h ⊢;obtain ⟨rfl, rfl⟩ := h;exact g
theorem Rel.err {α : Type} {F : PM α} {e : Int} {x : α} : Rel F (.error e) x (.error e) := rfl
theorem Rel.of_err {α : Type} {F : PM α} {σ : St} {e : Int} {x : α} (h : F σ = .error e) : Rel F (.ok σ) x (.error e) := by
 unfold Rel; simp only [h]
theorem Rel.of_ok {α : Type} {F : PM α} {σ τ : St} {x : α} (h : F σ = .ok (x, τ)) : Rel F (.ok σ) x (.ok τ) := by
 unfold Rel; simp only [h, and_self]
theorem Rel.get_err {α : Type} {F : PM α} {σ : St} {S : ES} {e : Int} {x : α} (g : Rel F (.ok σ) x S) (h : F σ = .error e) : S = .error e := by
 unfold Rel at g; simpa only [h] using g
theorem Rel.get_ok {α : Type} {F : PM α} {σ τ : St} {S : ES} {x y : α} (g : Rel F (.ok σ) x S) (h : F σ = .ok (y, τ)) : x = y ∧ S = .ok τ := by
 unfold Rel at g; simpa only [h] using g
theorem Rel.to {α : Type} {F F' : PM α} {S S' : ES} {x : α} (h : Rel F S x S') (e : F = F') : Rel F' S x S' := e ▸ h
def stands (s : Key) : ES → Bool
 | .error _ => false
 | .ok σ => decide (σ.now = .fixed s)
def going (s : Key) : ES → Bool
 | .error _ => false
 | .ok σ => !decide (σ.now = .fixed s)
def pickI : List (Int × Key) → ES → Int
 | [], _ => 0
 | (k, s) :: r, S => if stands s S then k else pickI r S
def errT (σ : St) : Int := if σ.now = .fin then 1 else 6
def wrongT {α : Type} : PM α := fun σ => .error (errT σ)
def failT {α : Type} (e : Int) : PM α := fun _ => .error e
def nextT : PM Unit := fun σ =>
 match cutT (gap false σ.rest) with
 | (.none, _) => .error 6
 | (t, r) => .ok ((), { σ with now := t, rest := r })
def isT (s : Key) : PM Bool := fun σ => .ok (decide (σ.now = .fixed s), σ)
theorem rel_is (s : Key) (S : ES) : Rel (isT s) S (stands s S) S := by
 cases S with
 | error e => rfl
 | ok σ => exact ⟨rfl, rfl⟩
def pickT (l : List (Int × Key)) : PM Int := fun σ => .ok (pickI l (.ok σ), σ)
theorem rel_pick (l : List (Int × Key)) (S : ES) : Rel (pickT l) S (pickI l S) S := by
 cases S with
 | error e => rfl
 | ok σ => exact ⟨rfl, rfl⟩
def takeT (s : Key) : PM Unit := fun σ => if σ.now = .fixed s then nextT σ else .error (errT σ)
def deeperT : PM Unit := fun σ => if σ.lv = 32 then .error 7 else .ok ((), { σ with lv := wrap64 (σ.lv + 1) })
def upT : PM Unit := fun σ => .ok ((), { σ with lv := wrap64 (σ.lv - 1) })
def openT (s : Key) : PM Unit := bnd (isT s) fun c => bnd (if c then deeperT else pur ()) fun _ => takeT s
def shutT (s : Key) : PM Unit := bnd (takeT s) fun _ => upT
def roomT (n m : Int) : PM Unit := if m ≤ n then failT 3 else pur ()
def nameT : PM Key := fun σ =>
 match σ.now with
 | .name s => bnd nextT (fun _ => pur s) σ
 | _ => .error (errT σ)
theorem v10_def (s : Key) : val10 s = v10 0 s := rfl
theorem numberOf_ok (s : Key) (hd : ∀ c ∈ s, isD c = true) : (numberOf s).ok := by
 unfold numberOf
 split
 ·trivial
 ·split
  ·trivial
  ·rename_i h
   refine ⟨?_, by omega⟩;rw [v10_def];exact v10_ge s 0 (Int.le_refl _) hd
theorem spanN_mem (f : UInt8 → Bool) : ∀ (s : Key), ∀ c ∈ s.take (spanN f s), f c = true
 | [], c, hc => by simp at hc
 | d :: r, c, hc => by
  by_cases hd : f d = true
  ·have ih := spanN_mem f r;simp only [spanN, hd, if_true, List.take_succ_cons] at hc;rcases List.mem_cons.1 hc with rfl | hc
   ·exact hd
   ·exact ih c hc
  ·simp [spanN, hd] at hc
theorem cutT_ok (s : Key) : (cutT s).1.ok := by
 cases s with
 | nil => trivial
 | cons c r =>
  rw [cutT]
  split
  ·unfold wordOf
   split
   ·trivial
   ·split <;> trivial
  ·split
   ·exact numberOf_ok _ (spanN_mem isD _)
   ·unfold signOf
    split <;> trivial
theorem signOf_len (s : Key) : (signOf s).2.length ≤ s.length := by
 unfold signOf
 split
 ·simp
 ·simp
theorem cutT_len (s : Key) : (cutT s).2.length ≤ s.length := by
 cases s with
 | nil => simp [cutT]
 | cons c r =>
  rw [cutT]
  split
  ·simp
  ·split
   ·simp
   ·exact signOf_len _
def mu (σ : St) : Nat := σ.rest.length + (if σ.now = .fin ∨ σ.now = .none then 0 else 1)
def need : ES → Nat
 | .error _ => 0
 | .ok σ => 16 * mu σ
theorem spanN_pos (f : UInt8 → Bool) (c : UInt8) (r : Key) (h : f c = true) : 1 ≤ spanN f (c :: r) := by simp [spanN, h]
theorem sign_len : ∀ g ∈ signL, 1 ≤ g.length := by decide
theorem cutT_less (s : Key) (h1 : (cutT s).1 ≠ .fin) (h2 : (cutT s).1 ≠ .none) : (cutT s).2.length < s.length := by
 cases s with
 | nil => exact absurd rfl h1
 | cons c r =>
  rw [cutT] at h1 h2 ⊢
  split
  ·rename_i hc
   have := spanN_pos goes c r (by simp [goes, hc]);simp;omega
  ·split
   ·rename_i hc
    have := spanN_pos isD c r hc;simp;omega
   ·rename_i hl hd
    rw [if_neg hl, if_neg hd] at h2;unfold signOf at h2 ⊢
    cases hf : signL.find? (fun g => decide ((c :: r).take g.length = g)) with
    | none => rw [hf] at h2; exact absurd rfl h2
    | some g =>
     have := sign_len g (List.mem_of_find?_eq_some hf);simp;omega
theorem mu_next {σ τ : St} (h : nextT σ = .ok ((), τ)) : mu τ ≤ σ.rest.length := by
 unfold nextT at h;have h2 := cutT_less (gap false σ.rest);have h3 := gap_len false σ.rest
 cases hc : cutT (gap false σ.rest) with
 | mk t r =>
  rw [hc] at h h2
  have hl : r.length ≤ σ.rest.length := by
   have : (cutT (gap false σ.rest)).2.length ≤ (gap false σ.rest).length := cutT_len _;rw [hc] at this;simp only at this;omega
  cases t with
  | none => cases h
  | fin =>
   injection h with h
   injection h with _ h
   subst h;simp [mu]; exact hl
  | name s =>
   injection h with h
   injection h with _ h
   subst h;have := h2 (by simp) (by simp);simp [mu] at this ⊢; omega
  | num s =>
   injection h with h
   injection h with _ h
   subst h;have := h2 (by simp) (by simp);simp [mu] at this ⊢; omega
  | fixed s =>
   injection h with h
   injection h with _ h
   subst h;have := h2 (by simp) (by simp);simp [mu] at this ⊢; omega
theorem need_next {S S' : ES} (h : Rel nextT S () S') : need S' ≤ need S := by
 cases S with
 | error e =>
  have h : S' = .error e := h;subst h;exact Nat.le_refl _
 | ok σ =>
  cases hn : nextT σ with
  | error e => rw [h.get_err hn]; exact Nat.zero_le _
  | ok p =>
   obtain ⟨⟨⟩, τ⟩ := p;rw [(h.get_ok hn).2];have := mu_next hn;show 16 * mu τ ≤ 16 * mu σ;have : σ.rest.length ≤ mu σ := by unfold mu; omega
   omega
def Here : ES → Prop
 | .error _ => False
 | .ok σ => σ.now ≠ .fin ∧ σ.now ≠ .none
theorem Here.of_stands {s : Key} {S : ES} (h : stands s S = true) : Here S := by
 cases S with
 | error e => cases h
 | ok σ =>
  have : σ.now = .fixed s := of_decide_eq_true h;exact ⟨by rw [this]; simp, by rw [this]; simp⟩
theorem Here.of_pick {l : List (Int × Key)} {S : ES} (h : pickI l S ≠ 0) : Here S := by
 induction l with
 | nil => exact absurd rfl h
 | cons p r ih =>
  obtain ⟨k, s⟩ := p;rw [pickI] at h
  by_cases hs : stands s S = true
  ·exact Here.of_stands hs
  ·rw [if_neg hs] at h;exact ih h
theorem need_here {S S' : ES} (h : Rel nextT S () S') (hh : Here S) : need S' + 16 ≤ need S := by
 cases S with
 | error e => exact hh.elim
 | ok σ =>
  have hm : mu σ = σ.rest.length + 1 := by unfold mu; rw [if_neg (by rintro (q | q); exact hh.1 q; exact hh.2 q)]
  cases hn : nextT σ with
  | error e => rw [h.get_err hn]; show 0 + 16 ≤ 16 * mu σ; omega
  | ok p =>
   obtain ⟨⟨⟩, τ⟩ := p;rw [(h.get_ok hn).2];have := mu_next hn;show 16 * mu τ + 16 ≤ 16 * mu σ;omega
theorem need_take {s : Key} {S S' : ES} (h : Rel (takeT s) S () S') : need S' ≤ need S ∧ (stands s S = true → need S' + 16 ≤ need S) := by
 cases S with
 | error e =>
  have h : S' = .error e := h;subst h;exact ⟨Nat.le_refl _, fun q => by cases q⟩
 | ok σ =>
  by_cases hs : σ.now = .fixed s
  ·have e : takeT s σ = nextT σ := if_pos hs;have h' : Rel nextT (.ok σ) () S' := by unfold Rel at h ⊢; simpa only [e] using h
   exact ⟨need_next h', fun q => need_here h' (Here.of_stands q)⟩
  ·have e : takeT s σ = .error (errT σ) := if_neg hs;rw [h.get_err e];exact ⟨Nat.zero_le _, fun q => absurd (of_decide_eq_true q) hs⟩
theorem need_deeper {S S' : ES} (h : Rel deeperT S () S') : need S' ≤ need S := by
 cases S with
 | error e =>
  have h : S' = .error e := h;subst h; exact Nat.le_refl _
 | ok σ =>
  by_cases h32 : σ.lv = 32
  ·rw [h.get_err (if_pos h32)]; exact Nat.zero_le _
  ·rw [(h.get_ok (if_neg h32)).2]; exact Nat.le_refl _
theorem need_up {S S' : ES} (h : Rel upT S () S') : need S' ≤ need S := by
 cases S with
 | error e =>
  have h : S' = .error e := h;subst h; exact Nat.le_refl _
 | ok σ => rw [(h.get_ok rfl).2]; exact Nat.le_refl _
end Go.Proofs.YtpofgnlkhkednaaGreatDoor
