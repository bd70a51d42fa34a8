/- All records that stand in a log's bytes. -/
import Derived.Test.YtaidiomaaldphaaQPure
import Derived.Deep.AppendLies
namespace Go.Proofs.Ytaidiomaaldphaa
open Go.RowKit
set_option linter.unusedVariables false
set_option linter.unusedSimpArgs false

theorem infoRec : (Try.prog.info? 54).map (fun i => (i.zero, i.size, i.bytes)) = some (some (.agg RZ), 38, 400) := by kernel_rfl
theorem fold_rc (h rd f : Int) : Array.foldl (fun (cs : Array Value) (x : Value × Nat) => cs.setIfInBounds x.snd x.fst) #[.int .i64 0, .int .i64 0, .int .i64 0, .int .i64 0, .bool false, .int .u64 0, .int .i64 0, .int .i64 0, .int .i64 0, .int .i64 0, .int .i64 0, .int .u64 0, .int .u64 0, .int .u64 0, .int .u64 0, .int .u64 0, .int .u64 0, .int .i64 0, .slice none 0 0, .slice none 0 0, .slice none 0 0, .int .i64 0, .int .i64 0, .int .i64 0, .bool false, .int .u64 0, .slice none 0 0, .int .i64 0, .int .i64 0, .int .u64 0, .int .u64 0, .int .u64 0, .int .u64 0, .int .u64 0, .int .u64 0, .int .i64 0, .slice none 0 0, .slice none 0 0] (RC h rd f).zipIdx 0 38 = RC h rd f := by kernel_rfl

set_option maxRecDepth 8000 in
set_option maxHeartbeats 3200000 in
theorem readAll_any (A : List Vk) (n : Nat) (w : World) (hA : ∀ a ∈ A, a.Ok) (hl : A.length ≤ 512) (hn : n ≤ (frs A).length) :
    Calls Try.prog 13 #[.string ⟨((frs A).take n).toArray⟩] w fun e w' => (∃ rv, e = .returned (.tuple #[rv, .int .i64 ((frs (A.take (whole A n))).length : Nat)]) ∧ w'.ownsRow w.heap.size 54 38 rv (whole A n) (flatR (A.take (whole A n)))) ∧ Below w.heap.size w w' := by
  obtain ⟨i0, hinf, hz0, hz1, hz2⟩ := info_parts infoRec
  have hsm := frs_small A
  have hsl : ((frs A).take n).length = n := by rw [List.length_take]; omega
  have sz := str_size' ((frs A).take n)
  rw [hsl] at sz
  have hwl := whole_le A n
  go_enter Try.func13, Try.ntmps13
  go_wp2_with fail
  go_loopw [2, 3, 4, 5] (fun rv sv _ _ w2 => ∃ j : Nat, j ≤ whole A n ∧ sv = .int .i64 ((frs (A.take j)).length : Nat) ∧ w2.ownsRow w.heap.size 54 38 rv j (flatR (A.take j)) ∧ Below w.heap.size w w2) (fun _ sv _ _ _ => n + 1 - (intOf sv).toNat)
  case atStart => exact ⟨0, Nat.zero_le _, rfl, World.ownsRow_nil _ _ _ _, Below.refl _ _⟩
  case round =>
    obtain ⟨j, hj, rfl, hown, hb⟩ := hrel
    generalize u2 = rv at *
    have hfit : (frs (A.take j)).length ≤ n := by
      have h1 := whole_fits A n
      have h2 := frs_len_take (A.take (whole A n)) j
      rw [List.take_take, Nat.min_eq_left hj] at h2
      omega
    have hex : (⟨((frs A).take n).toArray⟩ : ByteArray).extract (frs (A.take j)).length n = ⟨((frs (A.drop j)).take (n - (frs (A.take j)).length)).toArray⟩ := by
      have h := ext_drop ((frs A).take n) (frs (A.take j)).length
      rw [hsl, drop_frs] at h
      exact h
    by_cases hlt : j < whole A n
    · obtain ⟨a, ha⟩ : ∃ a, A[j]? = some a := ⟨_, List.getElem?_eq_getElem (show j < A.length by omega)⟩
      have hat := whole_at A n j hlt a ha
      have hok := hA a (List.mem_of_getElem? ha)
      have hfl := fr_len a
      have hbl := body_len a
      have e1 : (frs (A.drop j)).take (n - (frs (A.take j)).length) = a.fr ++ (frs (A.drop (j + 1))).take (n - (frs (A.take j)).length - a.fr.length) := by
        rw [drop_at ha, frs_cons, List.take_append, List.take_of_length_le (by omega)]
      rw [e1] at hex
      have KX := fun w' => read_whole a hok ((frs (A.drop (j + 1))).take (n - (frs (A.take j)).length - a.fr.length)) w' (by rw [List.length_take]; omega)
      have htk : A.take (j + 1) = A.take j ++ [a] := by
        obtain ⟨hl', he⟩ := List.getElem?_eq_some_iff.1 ha
        rw [List.take_succ_eq_append_getElem hl', he]
      have Hnext : Hid ((frs (A.take (j + 1))).length = (frs (A.take j)).length + a.fr.length ∧ flatR (A.take (j + 1)) = flatR (A.take j) ++ a.rc.toList ∧ True) := by
        refine ⟨by rw [htk, frs_app, List.length_append, frs_cons, frs_nil, List.append_nil], by rw [htk, flatR_snoc], trivial⟩
      have hCn : a.rc.size = 38 := rfl
      have hC1 : a.rc.all (·.oneCell') = true := RC_one _ _ _
      have hfold : Array.foldl (fun (cs : Array Value) (x : Value × Nat) => cs.setIfInBounds x.snd x.fst) #[.int .i64 0, .int .i64 0, .int .i64 0, .int .i64 0, .bool false, .int .u64 0, .int .i64 0, .int .i64 0, .int .i64 0, .int .i64 0, .int .i64 0, .int .u64 0, .int .u64 0, .int .u64 0, .int .u64 0, .int .u64 0, .int .u64 0, .int .i64 0, .slice none 0 0, .slice none 0 0, .slice none 0 0, .int .i64 0, .int .i64 0, .int .i64 0, .bool false, .int .u64 0, .slice none 0 0, .int .i64 0, .int .i64 0, .int .u64 0, .int .u64 0, .int .u64 0, .int .u64 0, .int .u64 0, .int .u64 0, .int .i64 0, .slice none 0 0, .slice none 0 0] a.rc.zipIdx 0 38 = a.rc := fold_rc _ _ _
      have hone : ∀ u ∈ a.rc.toList, u.oneCell' = true := fun u hu => (Array.all_eq_true_iff_forall_mem.1 hC1) u (by simpa using hu)
      clear e1 htk hok ha
      generalize a.fr ++ (frs (A.drop (j + 1))).take (n - (frs (A.take j)).length - a.fr.length) = T at *
      generalize a.rc = C at *
      generalize a.fr = F at *
      generalize (frs (A.take j)).length = S at *
      generalize F.length = FL at *
      have hFL : 0 < FL ∧ FL ≤ 268 := by omega
      clear hfl hbl
      have hS0 : (0 : Int) ≤ (S : Int) ∧ (S : Int) ≤ (n : Int) := by omega
      have hfn : (((FL : Nat) : Int) == 0) = false := by simp; omega
      have hsum : IntKind.i64.wrap ((S : Int) + (FL : Int)) = (S : Int) + (FL : Int) := wrapI _ (by omega) (by omega)
      go_upto_region 1 with fail
      refine wp_region_list ?_
      refine wpList_plain rfl (fun K hK => ?_)
      go_simp
      refine hK _ _ ?_
      clear hK K
      refine wpList_plain rfl (fun K hK => ?_)
      go_simp
      refine hK _ _ ?_
      clear hK K
      refine wpList_plain rfl (fun K hK => ?_)
      go_simp
      refine hK _ _ ?_
      clear hK K
      refine wpList_on (by kernel_rfl) (fun K hK => ?_)
      go_simp
      refine (KX wr).mono ?_
      rintro e w3 ⟨rfl, b3⟩
      refine hK _ _ ?_
      clear hK K
      refine wpList_plain rfl (fun K hK => ?_)
      go_simp
      refine hK _ _ ?_
      clear hK K
      refine wpList_plain rfl (fun K hK => ?_)
      go_simp
      refine hK _ _ ?_
      clear hK K
      refine wpList_plain rfl (fun K hK => ?_)
      go_simp
      refine hK _ _ ?_
      clear hK K
      refine wpList_plain rfl (fun K hK => ?_)
      go_simp
      refine hK _ _ ?_
      clear hK K
      have kN := Blk.new w3 #[.int .i64 0, .int .i64 0, .int .i64 0, .int .i64 0, .bool false, .int .u64 0, .int .i64 0, .int .i64 0, .int .i64 0, .int .i64 0, .int .i64 0, .int .u64 0, .int .u64 0, .int .u64 0, .int .u64 0, .int .u64 0, .int .u64 0, .int .i64 0, .slice none 0 0, .slice none 0 0, .slice none 0 0, .int .i64 0, .int .i64 0, .int .i64 0, .bool false, .int .u64 0, .slice none 0 0, .int .i64 0, .int .i64 0, .int .u64 0, .int .u64 0, .int .u64 0, .int .u64 0, .int .u64 0, .int .u64 0, .int .i64 0, .slice none 0 0, .slice none 0 0] 54
      have own3 := owns_below hown b3
      have own4 := own3.alloc (.cells #[.int .i64 0, .int .i64 0, .int .i64 0, .int .i64 0, .bool false, .int .u64 0, .int .i64 0, .int .i64 0, .int .i64 0, .int .i64 0, .int .i64 0, .int .u64 0, .int .u64 0, .int .u64 0, .int .u64 0, .int .u64 0, .int .u64 0, .int .i64 0, .slice none 0 0, .slice none 0 0, .slice none 0 0, .int .i64 0, .int .i64 0, .int .i64 0, .bool false, .int .u64 0, .slice none 0 0, .int .i64 0, .int .i64 0, .int .u64 0, .int .u64 0, .int .u64 0, .int .u64 0, .int .u64 0, .int .u64 0, .int .i64 0, .slice none 0 0, .slice none 0 0] 54)
      have B3 := hb.trans (b3.mono hb.size)
      have B4 := B3.alloc B3.size (.cells #[.int .i64 0, .int .i64 0, .int .i64 0, .int .i64 0, .bool false, .int .u64 0, .int .i64 0, .int .i64 0, .int .i64 0, .int .i64 0, .int .i64 0, .int .u64 0, .int .u64 0, .int .u64 0, .int .u64 0, .int .u64 0, .int .u64 0, .int .i64 0, .slice none 0 0, .slice none 0 0, .slice none 0 0, .int .i64 0, .int .i64 0, .int .i64 0, .bool false, .int .u64 0, .slice none 0 0, .int .i64 0, .int .i64 0, .int .u64 0, .int .u64 0, .int .u64 0, .int .u64 0, .int .u64 0, .int .u64 0, .int .i64 0, .slice none 0 0, .slice none 0 0] 54)
      have hz3 := b3.size
      clear b3 KX own3
      generalize w3.alloc (.cells #[.int .i64 0, .int .i64 0, .int .i64 0, .int .i64 0, .bool false, .int .u64 0, .int .i64 0, .int .i64 0, .int .i64 0, .int .i64 0, .int .i64 0, .int .u64 0, .int .u64 0, .int .u64 0, .int .u64 0, .int .u64 0, .int .u64 0, .int .i64 0, .slice none 0 0, .slice none 0 0, .slice none 0 0, .int .i64 0, .int .i64 0, .int .i64 0, .bool false, .int .u64 0, .slice none 0 0, .int .i64 0, .int .i64 0, .int .u64 0, .int .u64 0, .int .u64 0, .int .u64 0, .int .u64 0, .int .u64 0, .int .i64 0, .slice none 0 0, .slice none 0 0] 54) = w4 at *
      generalize w3.heap.size = nb at *
      refine wpList_store_mid rfl 54 _ _ rfl nb 0 C rfl rfl (kN.there _ (by rw [hCn]; decide)) (by rw [hCn]; kernel_rfl) hC1 ?_
      refine wpList_plain rfl (fun K hK => ?_)
      go_simp
      refine hK _ _ ?_
      clear hK K
      refine wpList_nil ?_
      simp only [Exit.then]
      have hR4 := World.rangeAt_setCells_same w4 nb 0 C.toList (kN.there _ (by rw [Array.length_toList, hCn]; decide))
      have hBt := but_setCells nb C.toList 0 w4
      have hB4 := hBt.below (B := w.heap.size) B4.size (fun k hk => by have := hb.size; omega)
      have own5 : (w4.setCells nb 0 C.toList).ownsRow w.heap.size 54 38 rv j (flatR (A.take j)) := hBt.owns own4 (fun g hg e => by have := (hown.lt g hg).2; omega)
      generalize w4.setCells nb 0 C.toList = w5 at *
      have B5 := B4.trans hB4
      clear kN B3 B4 hBt hB4 own4
      go_upto_region 4 with fail
      refine wp_region_list ?_
      refine wpList_plain rfl (fun K hK => ?_)
      go_simp
      refine hK _ _ ?_
      clear hK K
      refine wpList_load_mid rfl 54 _ rfl nb 0 rfl C.toList _ hR4 Try.underlying54 rfl (by rw [Array.length_toList, hCn]; kernel_rfl) ?_
      rw [Array.toArray_toList]
      refine wpList_plain rfl (fun K hK => ?_)
      go_simp
      refine hK _ _ ?_
      clear hK K
      have kB := Blk.new w5 C 54
      have own6 := own5.alloc (.cells C 54)
      have B6 := B5.alloc B5.size (.cells C 54)
      have hz6 : (w5.alloc (.cells C 54)).heap.size = w5.heap.size + 1 := by simp
      have hrb : ∀ g, rv.ownBlock = some g → w.heap.size ≤ g := fun g hg => (own5.lt g hg).1
      clear own5 B5
      generalize w5.alloc (.cells C 54) = w6 at *
      refine wpList_append_lies _ rfl _ _ 37 rfl w.heap.size 54 i0 (.agg RZ) 38 400 Try.underlying37 hinf hz0 hz1 hz2 rfl (by omega) rv j _ rfl own6 ⟨w5.heap.size, 0, none⟩ 1 1 C.toList rfl (by rw [Array.length_toList, hCn]) (fun q u hu => by
        rw [Addr.add_mid, Nat.zero_add, kB.cell]
        simpa using hu) hone (by omega) (by unfold maxLen; omega) (by omega) B6.size _ rfl ?_
      intro g cap w7 own7 hg7 hat7 hlt7
      have B7 := B6.grown hg7 B6.size (fun k e => hrb k e)
      refine wpList_plain rfl (fun K hK => ?_)
      go_simp
      refine hK _ _ ?_
      clear hK K
      refine wpList_nil ?_
      simp only [Exit.then]
      have own8 : w7.ownsRow w.heap.size 54 38 (.slice (some ⟨g, 0, none⟩) (j + 1) cap) (j + 1) (flatR (A.take (j + 1))) := by
        rw [Hnext.out.2.1]
        exact own7
      clear own6 own7 kB hg7 hat7
      go_wp2
      refine ⟨⟨j + 1, by omega, ?_, own8, B7⟩, ?_⟩
      · rw [Hnext.out.1]; push_cast; rfl
      · simp [intOf]; omega
    · have hje : j = whole A n := by omega
      have KX : ∀ w', Calls Try.prog 16 #[.string ⟨((frs (A.drop j)).take (n - (frs (A.take j)).length)).toArray⟩] w' fun e w'' => e = .returned (.tuple #[.agg RZ, .int .i64 0]) ∧ Below w'.heap.size w' w'' := fun w' => by
        by_cases hend : j < A.length
        · obtain ⟨a, ha⟩ : ∃ a, A[j]? = some a := ⟨_, List.getElem?_eq_getElem hend⟩
          rw [drop_at ha, frs_cons]
          refine read_torn a _ _ w' ?_
          have := whole_next A n a (by rw [← hje]; exact ha)
          rw [← hje] at this
          omega
        · rw [List.drop_of_length_le (by omega), frs_nil]
          exact readFrame_few _ w' (by simp)
      have HE : Hid (whole A n = j) := hje.symm
      have hCn : RZ.size = 38 := rfl
      have hC1 := RZ_one
      clear hje hlt
      generalize hSS : (frs (A.take j)).length = S at *
      have HS := show Hid (_ = _) from hSS
      clear hSS
      generalize (frs (A.drop j)).take (n - S) = T at *
      have hS0 : (0 : Int) ≤ (S : Int) ∧ (S : Int) ≤ (n : Int) := by omega
      generalize hCC : RZ = C at *
      clear hCC
      go_upto_region 1 with fail
      refine wp_region_list ?_
      refine wpList_plain rfl (fun K hK => ?_)
      go_simp
      refine hK _ _ ?_
      clear hK K
      refine wpList_plain rfl (fun K hK => ?_)
      go_simp
      refine hK _ _ ?_
      clear hK K
      refine wpList_plain rfl (fun K hK => ?_)
      go_simp
      refine hK _ _ ?_
      clear hK K
      refine wpList_on (by kernel_rfl) (fun K hK => ?_)
      go_simp
      refine (KX wr).mono ?_
      rintro e w3 ⟨rfl, b3⟩
      refine hK _ _ ?_
      clear hK K
      refine wpList_plain rfl (fun K hK => ?_)
      go_simp
      refine hK _ _ ?_
      clear hK K
      refine wpList_plain rfl (fun K hK => ?_)
      go_simp
      refine hK _ _ ?_
      clear hK K
      refine wpList_plain rfl (fun K hK => ?_)
      go_simp
      refine hK _ _ ?_
      clear hK K
      refine wpList_plain rfl (fun K hK => ?_)
      go_simp
      refine hK _ _ ?_
      clear hK K
      have kN := Blk.new w3 #[.int .i64 0, .int .i64 0, .int .i64 0, .int .i64 0, .bool false, .int .u64 0, .int .i64 0, .int .i64 0, .int .i64 0, .int .i64 0, .int .i64 0, .int .u64 0, .int .u64 0, .int .u64 0, .int .u64 0, .int .u64 0, .int .u64 0, .int .i64 0, .slice none 0 0, .slice none 0 0, .slice none 0 0, .int .i64 0, .int .i64 0, .int .i64 0, .bool false, .int .u64 0, .slice none 0 0, .int .i64 0, .int .i64 0, .int .u64 0, .int .u64 0, .int .u64 0, .int .u64 0, .int .u64 0, .int .u64 0, .int .i64 0, .slice none 0 0, .slice none 0 0] 54
      have own3 := owns_below hown b3
      have own4 := own3.alloc (.cells #[.int .i64 0, .int .i64 0, .int .i64 0, .int .i64 0, .bool false, .int .u64 0, .int .i64 0, .int .i64 0, .int .i64 0, .int .i64 0, .int .i64 0, .int .u64 0, .int .u64 0, .int .u64 0, .int .u64 0, .int .u64 0, .int .u64 0, .int .i64 0, .slice none 0 0, .slice none 0 0, .slice none 0 0, .int .i64 0, .int .i64 0, .int .i64 0, .bool false, .int .u64 0, .slice none 0 0, .int .i64 0, .int .i64 0, .int .u64 0, .int .u64 0, .int .u64 0, .int .u64 0, .int .u64 0, .int .u64 0, .int .i64 0, .slice none 0 0, .slice none 0 0] 54)
      have B3 := hb.trans (b3.mono hb.size)
      have B4 := B3.alloc B3.size (.cells #[.int .i64 0, .int .i64 0, .int .i64 0, .int .i64 0, .bool false, .int .u64 0, .int .i64 0, .int .i64 0, .int .i64 0, .int .i64 0, .int .i64 0, .int .u64 0, .int .u64 0, .int .u64 0, .int .u64 0, .int .u64 0, .int .u64 0, .int .i64 0, .slice none 0 0, .slice none 0 0, .slice none 0 0, .int .i64 0, .int .i64 0, .int .i64 0, .bool false, .int .u64 0, .slice none 0 0, .int .i64 0, .int .i64 0, .int .u64 0, .int .u64 0, .int .u64 0, .int .u64 0, .int .u64 0, .int .u64 0, .int .i64 0, .slice none 0 0, .slice none 0 0] 54)
      have hz3 := b3.size
      clear b3 KX own3
      generalize w3.alloc (.cells #[.int .i64 0, .int .i64 0, .int .i64 0, .int .i64 0, .bool false, .int .u64 0, .int .i64 0, .int .i64 0, .int .i64 0, .int .i64 0, .int .i64 0, .int .u64 0, .int .u64 0, .int .u64 0, .int .u64 0, .int .u64 0, .int .u64 0, .int .i64 0, .slice none 0 0, .slice none 0 0, .slice none 0 0, .int .i64 0, .int .i64 0, .int .i64 0, .bool false, .int .u64 0, .slice none 0 0, .int .i64 0, .int .i64 0, .int .u64 0, .int .u64 0, .int .u64 0, .int .u64 0, .int .u64 0, .int .u64 0, .int .i64 0, .slice none 0 0, .slice none 0 0] 54) = w4 at *
      generalize w3.heap.size = nb at *
      refine wpList_store_mid rfl 54 _ _ rfl nb 0 C rfl rfl (kN.there _ (by rw [hCn]; decide)) (by rw [hCn]; kernel_rfl) hC1 ?_
      refine wpList_plain rfl (fun K hK => ?_)
      go_simp
      refine hK _ _ ?_
      clear hK K
      refine wpList_nil ?_
      simp only [Exit.then]
      have hR4 := World.rangeAt_setCells_same w4 nb 0 C.toList (kN.there _ (by rw [Array.length_toList, hCn]; decide))
      have hBt := but_setCells nb C.toList 0 w4
      have hB4 := hBt.below (B := w.heap.size) B4.size (fun k hk => by have := hb.size; omega)
      have own5 : (w4.setCells nb 0 C.toList).ownsRow w.heap.size 54 38 rv j (flatR (A.take j)) := hBt.owns own4 (fun g hg e => by have := (hown.lt g hg).2; omega)
      generalize w4.setCells nb 0 C.toList = w5 at *
      have B5 := B4.trans hB4
      clear kN B3 B4 hBt hB4 own4
      go_wp2
      go_ret2
      refine ⟨⟨rv, by rw [HE.out, HS.out]; rfl, ?_⟩, B5⟩
      rw [HE.out]
      exact own5
end Go.Proofs.Ytaidiomaaldphaa
