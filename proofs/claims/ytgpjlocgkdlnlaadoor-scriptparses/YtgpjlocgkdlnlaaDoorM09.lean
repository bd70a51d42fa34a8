/- The program's tokens, cut off a text. -/
import Derived.Test.YtgpjlocgkdlnlaaDoorM08
import Derived.Test.YtgpjlocgkdlnlaaDoorM01

namespace Go.Proofs.YtgpjlocgkdlnlaaDoor
open Go.RowKit
set_option linter.unusedVariables false
set_option linter.unusedSimpArgs false

def kindL : List Key := [[], [110, 117, 109], [102, 108, 97, 103], [119, 104, 111]]
def stepL : List Key := [[], [108, 101, 116], [], [], [105, 102], [119, 104, 105, 108, 101], [114, 101, 116, 117, 114, 110], [110, 101, 101, 100], [112, 97, 121], [110, 111, 116, 101], [97, 115, 107]]
def exprL : List Key := [[], [], [], [], [], [], [111, 114], [97, 110, 100], [110, 111, 116], [61, 61], [33, 61], [60], [60, 61], [62], [62, 61], [43], [45], [42], [47], [37], [115, 101, 108, 102], [99, 97, 108, 108, 101, 114], [118, 97, 108, 117, 101], [104, 101, 105, 103, 104, 116], [98, 97, 108, 97, 110, 99, 101], [119, 104, 111], [110, 117, 109]]
def formL : List (Bool × Int) := [(false, 0), (false, 0), (false, 0), (true, 0), (true, 1), (true, (-1)), (false, 2), (false, 2), (false, 1), (false, 2), (false, 2), (false, 2), (false, 2), (false, 2), (false, 2), (false, 2), (false, 2), (false, 2), (false, 2), (false, 2), (false, 0), (false, 0), (false, 0), (false, 0), (false, 1), (false, 1), (false, 1)]
def flatF : List (Bool × Int) → List Value
  | [] => []
  | (x, n) :: r => .bool x :: .int .i64 n :: flatF r
def sv (l : List Key) : List Value := l.map fun s => Value.string (str s)
/-- The package's tables. -/
def tabV : Nat → List Value
  | 0 => sv signL
  | 1 => sv kindL
  | 2 => sv stepL
  | 3 => flatF formL
  | 4 => sv exprL
  | _ => []
structure Gl (w : World) : Prop where
  sz : 5 ≤ w.heap.size
  tab : ∀ g, g < 5 → w.rangeAt g 0 (tabV g)
theorem Gl.signs {w : World} (h : Gl w) : w.rangeAt 0 0 (signL.map fun s => Value.string (str s)) := h.tab 0 (by omega)
theorem Gl.below {w w' : World} (h : Gl w) (hb : Below w.heap.size w w') : Gl w' :=
  ⟨Nat.le_trans h.sz hb.size, fun g hg j v hv => by rw [hb.cell (p := ⟨g, 0 + j, none⟩) (Nat.lt_of_lt_of_le (by show g < 5; omega) h.sz)]; exact h.tab g hg j v hv⟩
theorem spanN_take (f : UInt8 → Bool) : ∀ s : Key, spanN f (s.take (spanN f s)) = spanN f s
  | [] => rfl
  | c :: r => by
    by_cases h : f c = true
    · have ih := spanN_take f r
      simp [spanN, h, ih]
    · simp [spanN, h]
/-- What the cutting gives. -/
def CutE (s : Key) (w : World) (e : Ending) (w' : World) : Prop := e = .returned (.tuple #[(cutT s).1.val, .string (str (cutT s).2)]) ∧ Below w.heap.size w w'
set_option maxHeartbeats 3200000 in
set_option maxRecDepth 4000 in
theorem cut_letter (c : UInt8) (q : Key) (w : World) (hl : q.length < 2048) (hc : isL c = true) : Calls Tryd.prog 17 #[.string (str (c :: q))] w (CutE (c :: q) w) := by
  have hsp : ∃ n, spanN goes (c :: q) = n + 1 ∧ n ≤ q.length := by
    have hg : goes c = true := by simp [goes, hc]
    exact ⟨spanN goes q, by simp [spanN, hg], spanN_le _ _⟩
  obtain ⟨n, hn, hnl⟩ := hsp
  have sz := str_size (c :: q)
  simp only [List.length_cons] at sz
  have h0 : (str (c :: q)).toList = c :: q := str_toList _
  have hne : ((c :: q : Key) == []) = false := by simp
  have e0 : ∀ hgx, (str (c :: q))[0]'hgx = c := fun hgx => str_get (c :: q) 0 (by simp) hgx
  have K1 := fun w' => letter_any c w'
  rw [hc] at K1
  have K2 := fun w' => span_goes (c :: q) w' (by simp; omega)
  rw [hn] at K2
  have hx1 : (str (c :: q)).extract 0 (n + 1) = str (c :: q.take n) := (str_take (c :: q) (n + 1)).trans rfl
  have hx2 := str_drop (c :: q) (n + 1)
  simp only [List.length_cons, List.drop_succ_cons] at hx2
  have K3 := fun w' => wordOf_any c (q.take n) w' (by simp; omega) hc (by
    have := spanN_take goes (c :: q)
    rw [hn] at this
    simp only [List.take_succ_cons] at this
    rw [this]; simp; omega)
  have HR : Hid (cutT (c :: q) = (wordOf (c :: q.take n), q.drop n)) := by
    show _ = _
    rw [cutT, if_pos hc, hn]; rfl
  have hle : (n : Int) + 1 ≤ (q.length : Int) + 1 := by omega
  have hn0 : (0 : Int) ≤ (n : Int) + 1 := by omega
  have kA := Blk.new w #[.int .i64 0, .string ⟨#[]⟩, .int .i64 0] 34
  have bA : Below w.heap.size w (w.alloc (.cells #[.int .i64 0, .string ⟨#[]⟩, .int .i64 0] 34)) := (Below.refl _ _).alloc (Nat.le_refl _) _
  go_enter Tryd.func17, Tryd.ntmps17
  go_wp2_with fail
  refine (K1 _).mono ?_
  rintro e w1 ⟨rfl, rfl⟩
  go_wp2_with fail
  refine (K2 _).mono ?_
  rintro e w1 ⟨rfl, b1⟩
  have k1 := kA.below b1 kA.lt
  have b01 := bA.trans (b1.mono bA.size)
  generalize (wordOf (c :: q.take n)) = tk1 at *
  go_wp2_with fail
  refine wp_region_held_drew (S := fun _ => True) (by kernel_rfl) trivial (fun hHeld => ?_)
  refine tk 0 ?_
  refine tk 1 ?_
  refine tk 2 ?_
  refine tk 4 ?_
  refine tk 5 ?_
  refine tk 6 ?_
  refine wpAnyH_ready (rs := [3]) (by kernel_rfl) (by simp) ?_
  refine AllReadyH.cons rfl (fun K hK => ?_) AllReadyH.nil
  go_simp
  refine (K3 _).mono ?_
  rintro e w2 ⟨rfl, b2⟩
  have k2 := k1.drew.below b2 k1.drew.lt
  have b02 := b01.drew.trans (b2.mono b01.drew.size)
  refine hK.out _ _ trivial (fun hHeld2 => ?_)
  clear hK K
  refine wpAnyH_ready (rs := [7]) (by kernel_rfl) (by simp) ?_
  refine AllReadyH.cons rfl (fun K hK => ?_) AllReadyH.nil
  obtain ⟨zA, c0, c1, c2, f0, f1, f2⟩ := k2.three
  unfold Tok.val
  go_simp
  refine hK.out _ _ trivial (fun hHeld3 => ?_)
  clear hK K
  refine tk 8 ?_
  refine wpAnyH_done (by kernel_rfl) ?_ _
  have k3 := ((k2.set 0 (.int .i64 tk1.class)).set 1 (.string (str tk1.text))).set 2 (.int .i64 tk1.n)
  have b3 := ((b02.setCell (p := ⟨w.heap.size, 0, none⟩) (Nat.le_refl _) (.int .i64 tk1.class)).setCell (p := ⟨w.heap.size, 1, none⟩) (Nat.le_refl _) (.string (str tk1.text))).setCell (p := ⟨w.heap.size, 2, none⟩) (Nat.le_refl _) (.int .i64 tk1.n)
  generalize ((w2.setCell ⟨w.heap.size, 0, none⟩ (.int .i64 tk1.class)).setCell ⟨w.heap.size, 1, none⟩ (.string (str tk1.text))).setCell ⟨w.heap.size, 2, none⟩ (.int .i64 tk1.n) = w3 at *
  go_wp2
  exact ret_box2 Tryd.results17 rfl rfl rfl (by kernel_rfl) (by kernel_rfl) k3 ⟨by rw [HR.out]; rfl, b3⟩
set_option maxHeartbeats 3200000 in
set_option maxRecDepth 4000 in
theorem cut_digit (c : UInt8) (q : Key) (w : World) (hl : q.length < 2048) (hc0 : isL c = false) (hc : isD c = true) : Calls Tryd.prog 17 #[.string (str (c :: q))] w (CutE (c :: q) w) := by
  have hsp : ∃ n, spanN isD (c :: q) = n + 1 ∧ n ≤ q.length := by
    exact ⟨spanN isD q, by simp [spanN, hc], spanN_le _ _⟩
  obtain ⟨n, hn, hnl⟩ := hsp
  have sz := str_size (c :: q)
  simp only [List.length_cons] at sz
  have h0 : (str (c :: q)).toList = c :: q := str_toList _
  have hne : ((c :: q : Key) == []) = false := by simp
  have e0 : ∀ hgx, (str (c :: q))[0]'hgx = c := fun hgx => str_get (c :: q) 0 (by simp) hgx
  have K0 := fun w' => letter_any c w'
  rw [hc0] at K0
  have K1 := fun w' => digit_any c w'
  rw [hc] at K1
  have K2 := fun w' => span_isD (c :: q) w' (by simp; omega)
  rw [hn] at K2
  have hx1 : (str (c :: q)).extract 0 (n + 1) = str (c :: q.take n) := (str_take (c :: q) (n + 1)).trans rfl
  have hx2 := str_drop (c :: q) (n + 1)
  simp only [List.length_cons, List.drop_succ_cons] at hx2
  have K3 := fun w' => numberOf_any c (q.take n) w' (by simp; omega) (by
    have := spanN_take isD (c :: q)
    rw [hn] at this
    simp only [List.take_succ_cons] at this
    rw [this]; simp; omega)
  have HR : Hid (cutT (c :: q) = (numberOf (c :: q.take n), q.drop n)) := by
    show _ = _
    rw [cutT, if_neg (by simp [hc0]), if_pos hc, hn]; rfl
  have hle : (n : Int) + 1 ≤ (q.length : Int) + 1 := by omega
  have hn0 : (0 : Int) ≤ (n : Int) + 1 := by omega
  have kA := Blk.new w #[.int .i64 0, .string ⟨#[]⟩, .int .i64 0] 34
  have bA : Below w.heap.size w (w.alloc (.cells #[.int .i64 0, .string ⟨#[]⟩, .int .i64 0] 34)) := (Below.refl _ _).alloc (Nat.le_refl _) _
  go_enter Tryd.func17, Tryd.ntmps17
  go_wp2_with fail
  refine (K0 _).mono ?_
  rintro e w1 ⟨rfl, rfl⟩
  go_wp2_with fail
  refine (K1 _).mono ?_
  rintro e w1 ⟨rfl, rfl⟩
  go_wp2_with fail
  refine (K2 _).mono ?_
  rintro e w1 ⟨rfl, b1⟩
  have k1 := kA.below b1 kA.lt
  have b01 := bA.trans (b1.mono bA.size)
  generalize (numberOf (c :: q.take n)) = tk1 at *
  go_wp2_with fail
  refine wp_region_held_drew (S := fun _ => True) (by kernel_rfl) trivial (fun hHeld => ?_)
  refine tk 0 ?_
  refine tk 1 ?_
  refine tk 2 ?_
  refine tk 4 ?_
  refine tk 5 ?_
  refine tk 6 ?_
  refine wpAnyH_ready (rs := [3]) (by kernel_rfl) (by simp) ?_
  refine AllReadyH.cons rfl (fun K hK => ?_) AllReadyH.nil
  go_simp
  refine (K3 _).mono ?_
  rintro e w2 ⟨rfl, b2⟩
  have k2 := k1.drew.below b2 k1.drew.lt
  have b02 := b01.drew.trans (b2.mono b01.drew.size)
  refine hK.out _ _ trivial (fun hHeld2 => ?_)
  clear hK K
  refine wpAnyH_ready (rs := [7]) (by kernel_rfl) (by simp) ?_
  refine AllReadyH.cons rfl (fun K hK => ?_) AllReadyH.nil
  obtain ⟨zA, c0, c1, c2, f0, f1, f2⟩ := k2.three
  unfold Tok.val
  go_simp
  refine hK.out _ _ trivial (fun hHeld3 => ?_)
  clear hK K
  refine tk 8 ?_
  refine wpAnyH_done (by kernel_rfl) ?_ _
  have k3 := ((k2.set 0 (.int .i64 tk1.class)).set 1 (.string (str tk1.text))).set 2 (.int .i64 tk1.n)
  have b3 := ((b02.setCell (p := ⟨w.heap.size, 0, none⟩) (Nat.le_refl _) (.int .i64 tk1.class)).setCell (p := ⟨w.heap.size, 1, none⟩) (Nat.le_refl _) (.string (str tk1.text))).setCell (p := ⟨w.heap.size, 2, none⟩) (Nat.le_refl _) (.int .i64 tk1.n)
  generalize ((w2.setCell ⟨w.heap.size, 0, none⟩ (.int .i64 tk1.class)).setCell ⟨w.heap.size, 1, none⟩ (.string (str tk1.text))).setCell ⟨w.heap.size, 2, none⟩ (.int .i64 tk1.n) = w3 at *
  go_wp2
  exact ret_box2 Tryd.results17 rfl rfl rfl (by kernel_rfl) (by kernel_rfl) k3 ⟨by rw [HR.out]; rfl, b3⟩
set_option maxHeartbeats 800000 in
theorem cut_nil (w : World) : Calls Tryd.prog 17 #[.string (str [])] w (CutE [] w) := by
  have h0 : (str ([] : Key)).toList = [] := str_toList _
  go_enter Tryd.func17, Tryd.ntmps17
  go_wp2
  exact ret_box2 Tryd.results17 rfl rfl rfl (by kernel_rfl) (by kernel_rfl) (Blk.new _ _ _) ⟨rfl, (Below.refl _ _).alloc (Nat.le_refl _) _⟩
end Go.Proofs.YtgpjlocgkdlnlaaDoor

namespace Go.Proofs.YtgpjlocgkdlnlaaDoor
open Go.RowKit
set_option linter.unusedVariables false
set_option linter.unusedSimpArgs false

theorem run_index1 {P : Program} {w : World} {xt el : TypeId} {n i : Nat} {A : Array Value} {v : Value} {d : TypeDesc} (hu : P.underlying xt = some (.array n el)) (he : P.underlying el = some d) (hd : d.isRow = false) (hs : (P.info? el).map (·.size) = some 1) (hA : A[i]? = some v) (hi : i < n) :
    (Instr.index xt (.agg A) (.int .i64 i)).run P w = .ok v w := by
  have hagg : (isAgg el).run P w = .ok false w := by
    unfold isAgg
    rw [Sem.run_bind, run_underlying he w]
    cases d <;> simp_all [TypeDesc.isRow]
  cases hq : P.info? el with
  | none => simp [hq] at hs
  | some q =>
    have hs : q.size = 1 := by simpa [hq] using hs
    simp [Instr.index, Sem.run_bind, run_underlying hu, asIntOf, sizeOf, typeInfo, hq, hs, part, hagg, hA]
    intro h; omega
theorem pre_take (s g : Key) : g.isPrefixOf s = decide (s.take g.length = g) := by
  rw [Bool.eq_iff_iff, List.isPrefixOf_iff_prefix, decide_eq_true_iff]
  exact ⟨fun h => (List.prefix_iff_eq_take.1 h).symm, fun h => by rw [← h]; exact List.take_prefix _ _⟩
set_option maxHeartbeats 3200000 in
set_option maxRecDepth 4000 in
theorem cut_sign (c : UInt8) (q : Key) (w : World) (hl : q.length < 2048) (hc0 : isL c = false) (hc : isD c = false) (g : Gl w) : Calls Tryd.prog 17 #[.string (str (c :: q))] w (CutE (c :: q) w) := by
  have sz := str_size (c :: q)
  simp only [List.length_cons] at sz
  have h0 : (str (c :: q)).toList = c :: q := str_toList _
  have hne : ((c :: q : Key) == []) = false := by simp
  have e0 : ∀ hgx, (str (c :: q))[0]'hgx = c := fun hgx => str_get (c :: q) 0 (by simp) hgx
  have K0 := fun w' => letter_any c w'
  rw [hc0] at K0
  have K1 := fun w' => digit_any c w'
  rw [hc] at K1
  have kA := Blk.new w #[.int .i64 0, .string ⟨#[]⟩, .int .i64 0] 34
  have bA : Below w.heap.size w (w.alloc (.cells #[.int .i64 0, .string ⟨#[]⟩, .int .i64 0] 34)) := (Below.refl _ _).alloc (Nat.le_refl _) _
  have gA := g.below bA
  go_enter Tryd.func17, Tryd.ntmps17
  go_wp2_with fail
  refine (K0 _).mono ?_
  rintro e w1 ⟨rfl, rfl⟩
  go_wp2_with fail
  refine (K1 _).mono ?_
  rintro e w1 ⟨rfl, rfl⟩
  generalize w.alloc (.cells #[.int .i64 0, .string ⟨#[]⟩, .int .i64 0] 34) = W at *
  go_upto_region 9 with fail
  refine wp_region_list ?_
  refine wpList_load_mid rfl 76 _ rfl 0 0 rfl (signL.map fun s => Value.string (str s)) _ gA.signs Tryd.underlying76 rfl (by kernel_rfl) ?_
  obtain ⟨A, HA⟩ : ∃ A : Array Value, Hid (A = (signL.map fun s => Value.string (str s)).toArray) := ⟨_, rfl⟩
  rw [← HA.out]
  refine wpList_plain rfl (fun K hK => ?_)
  go_simp
  refine hK _ _ ?_
  clear hK K
  refine wpList_nil ?_
  go_wp2_with fail
  have HS : Hid (cutT (c :: q) = signOf (c :: q)) := by
    show _ = _
    rw [cutT, if_neg (by simp [hc0]), if_neg (by simp [hc])]
  obtain ⟨p, Hp⟩ : ∃ p : Key → Bool, Hid (p = fun g => decide ((c :: q).take g.length = g)) := ⟨_, rfl⟩
  go_loopw [36] (fun iv wv => ∃ i : Nat, i ≤ 23 ∧ iv = .int .i64 i ∧ Hid (signL.find? p = (signL.drop i).find? p) ∧ Blk wv w.heap.size #[.int .i64 0, .string ⟨#[]⟩, .int .i64 0] 34 ∧ Below w.heap.size w wv) (fun iv _ => 23 - (intOf iv).toNat)
  case atStart => exact ⟨0, by omega, rfl, rfl, kA, bA⟩
  case round =>
    obtain ⟨i, hi, rfl, HF, kB, bB⟩ := hrel
    by_cases hlt : i < 23
    · have hlt' : (i : Int) < 23 := by omega
      obtain ⟨g1, hg1⟩ : ∃ g1, signL[i]? = some g1 := ⟨_, List.getElem?_eq_getElem (by simpa [signL] using hlt)⟩
      have hA : A[i]? = some (.string (str g1)) := by rw [HA.out]; simp [hg1]
      have hAs : A.size = 23 := by rw [HA.out]; simp [signL]
      have hg2 : g1.length ≤ 2 := by
        have hm := List.mem_of_getElem? hg1
        have : ∀ x ∈ signL, x.length ≤ 2 := by decide
        exact this g1 hm
      have HD : Hid (signL.drop i = g1 :: signL.drop (i + 1)) := by
        show _ = _
        obtain ⟨h1, h2⟩ := List.getElem?_eq_some_iff.1 hg1
        rw [List.drop_eq_getElem_cons h1, h2]
      have KP := fun w' => hasPre_any (c :: q) g1 w' (by unfold maxLen; omega)
      have hix := fun w' => run_index1 (P := Tryd.prog) (w := w') (xt := 76) (el := 9) (n := 23) Tryd.underlying76 Tryd.underlying9 rfl (by kernel_rfl) hA hlt
      clear hg1 hA
      go_wp2_with fail
      refine (KP _).mono ?_
      rintro e w2 ⟨rfl, rfl⟩
      cases hp : g1.isPrefixOf (c :: q) with
      | false =>
        have HF' : Hid (signL.find? p = (signL.drop (i + 1)).find? p) := by
          show _ = _
          rw [HF.out, HD.out, List.find?_cons_of_neg]
          rw [Hp.out]
          show ¬ decide _ = true
          rw [← pre_take, hp]; simp
        clear HF HD
        go_wp2
        exact ⟨⟨i + 1, hlt, by go_num, HF', by first | exact kB | exact kB.drew, by first | exact bB | exact bB.drew⟩, by simp [intOf]; omega⟩
      | true =>
        have HR : Hid (signOf (c :: q) = (.fixed g1, (c :: q).drop g1.length)) := by
          have h1 : signL.find? p = some g1 := by
            rw [HF.out, HD.out, List.find?_cons_of_pos]
            rw [Hp.out]
            show decide _ = true
            rw [← pre_take, hp]
          rw [Hp.out] at h1
          show _ = _
          unfold signOf
          rw [h1]
        have hgl : g1.length ≤ q.length + 1 := by
          have := (List.isPrefixOf_iff_prefix.1 hp).length_le
          simpa using this
        have hgl' : (g1.length : Int) ≤ (q.length : Int) + 1 := by omega
        have sz1 := str_size g1
        have hx := str_drop (c :: q) g1.length
        simp only [List.length_cons] at hx
        clear HF HD Hp HA
        go_wp2_with fail
        refine wp_region_held_drew (S := fun _ => True) (by kernel_rfl) trivial (fun hHeld => ?_)
        refine tk 0 ?_
        refine tk 1 ?_
        refine tk 2 ?_
        refine tk 3 ?_
        refine tk 4 ?_
        refine tk 5 ?_
        refine wpAnyH_ready (rs := [6]) (by kernel_rfl) (by simp) ?_
        refine AllReadyH.cons rfl (fun K hK => ?_) AllReadyH.nil
        have kC := kB.drew
        have bC := bB.drew
        generalize wr.drew = wd at *
        obtain ⟨zA, c0, c1, c2, f0, f1, f2⟩ := kC.three
        go_simp
        refine hK.out _ _ trivial (fun hHeld3 => ?_)
        clear hK K
        refine tk 7 ?_
        refine wpAnyH_done (by kernel_rfl) ?_ _
        go_wp2
        exact ret_box2 Tryd.results17 rfl rfl rfl (by kernel_rfl) (by kernel_rfl) (((kC.set 0 _).set 1 _).set 2 _) ⟨by rw [HS.out, HR.out]; rfl, ((bC.setCell (Nat.le_refl _) _).setCell (Nat.le_refl _) _).setCell (Nat.le_refl _) _⟩
    · have hge : ¬ (i : Int) < 23 := by omega
      have HR : Hid (signOf (c :: q) = (.none, c :: q)) := by
        have h1 : signL.find? p = none := by rw [HF.out, show i = 23 by omega]; rfl
        rw [Hp.out] at h1
        show _ = _
        unfold signOf
        rw [h1]
      obtain ⟨zA, c0, c1, c2, f0, f1, f2⟩ := kB.three
      clear HF Hp HA
      go_wp2
      exact ret_box2 Tryd.results17 rfl rfl rfl (by kernel_rfl) (by kernel_rfl) (((kB.set 0 _).set 1 _).set 2 _) ⟨by rw [HS.out, HR.out]; rfl, ((bB.setCell (Nat.le_refl _) _).setCell (Nat.le_refl _) _).setCell (Nat.le_refl _) _⟩
theorem cut_any (s : Key) (w : World) (hl : s.length ≤ 2048) (g : Gl w) : Calls Tryd.prog 17 #[.string (str s)] w (CutE s w) := by
  cases s with
  | nil => exact cut_nil w
  | cons c q =>
    have hq : q.length < 2048 := by simp only [List.length_cons] at hl; omega
    cases h1 : isL c with
    | true => exact cut_letter c q w hq h1
    | false =>
      cases h2 : isD c with
      | true => exact cut_digit c q w hq h1 h2
      | false => exact cut_sign c q w hq h1 h2 g
end Go.Proofs.YtgpjlocgkdlnlaaDoor
