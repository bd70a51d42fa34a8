import Derived.Test.YtackcbpabjhmpaaGreatM01
import Derived.Defers
import Derived.Recover
namespace Go.Proofs.YtackcbpabjhmpaaGreat
open Go.RowKit
set_option linter.unusedVariables false
set_option linter.unusedSimpArgs false
theorem number_any (base b : Nat) (a : Addr) (n : Int) (out : List UInt8) (w : World) (hL : out.length ≤ 1099511627776) (hP : PassAt w base b out) (ha : w.cell? a = some (.int .i64 n)) :
    Calls Tryz.prog 41 #[.pointer (some ⟨b, 0, none⟩), .pointer (some a)] w fun e w' => Wrote base b (pNum 1099511627775 (some out) n) e w' ∧ Kp base b w w' := by
  go_enter Tryz.func41, Tryz.ntmps41
  go_wp2_with fail
  refine (bounded_any base b a n 1099511627775 out _ (by omega) hL hP ha).mono ?_
  rintro e w1 ⟨⟨o, ho, rfl, h1⟩ | ⟨ho, rfl⟩, k1⟩
  · go_wp2
    go_end0
    exact ⟨.inl ⟨o, ho, rfl, h1⟩, k1⟩
  · go_wp2
    exact ⟨rfl, .inr ⟨ho, rfl⟩, k1⟩
def pNums (o : Option (List UInt8)) (ns : List Int) : Option (List UInt8) := ns.foldl (pNum 1099511627775) o
theorem pNums_none (ns : List Int) : pNums none ns = none := by
  induction ns with
  | nil => rfl
  | cons n r ih => exact ih
theorem pNum_len {most n : Int} {out o : List UInt8} (h : pNum most (some out) n = some o) : o.length ≤ out.length + 6 := by
  unfold pNum at h
  simp only [Option.bind_some] at h
  split at h
  · simp only [Option.some.injEq] at h
    subst h
    have := numB_len n
    simp; omega
  · cases h
theorem pNums_take (o : Option (List UInt8)) (ns : List Int) (k : Nat) (n : Int) (h : ns[k]? = some n) : pNums o (ns.take (k + 1)) = pNum 1099511627775 (pNums o (ns.take k)) n := by
  have e : ns.take (k + 1) = ns.take k ++ [n] := by
    rw [List.take_add_one, h]; rfl
  rw [e]
  unfold pNums
  rw [List.foldl_append]; rfl
theorem pNums_drop (o : Option (List UInt8)) (ns : List Int) (k : Nat) : pNums o ns = pNums (pNums o (ns.take k)) (ns.drop k) := by
  unfold pNums
  rw [← List.foldl_append, List.take_append_drop]
def Ptrs (w : World) (b lb : Nat) (ads : List Addr) (ns : List Int) : Prop :=
  ads.length = ns.length ∧ Safe w b lb ∧ ∀ i a n, ads[i]? = some a → ns[i]? = some n → w.cell? ⟨lb, i, none⟩ = some (.pointer (some a)) ∧ w.cell? a = some (.int .i64 n) ∧ Safe w b a.block
theorem Safe.cell {base b : Nat} {w w' : World} {a : Addr} (h : Safe w b a.block) (hK : Kp base b w w') : w'.cell? a = w.cell? a := World.cell?_of_block (hK.safe _ h)
theorem Ptrs.kp {w w' : World} {base b lb : Nat} {ads : List Addr} {ns : List Int} (h : Ptrs w b lb ads ns) (hK : Kp base b w w') : Ptrs w' b lb ads ns := by
  refine ⟨h.1, h.2.1.kp hK, fun i a n ha hn => ?_⟩
  obtain ⟨h1, h2, h3⟩ := h.2.2 i a n ha hn
  exact ⟨by rw [Safe.cell (a := ⟨lb, i, none⟩) h.2.1 hK]; exact h1, by rw [h3.cell hK]; exact h2, h3.kp hK⟩
set_option maxHeartbeats 800000 in
theorem numbers_any (base b lb cap : Nat) (ads : List Addr) (ns : List Int) (out : List UInt8) (w : World) (hn : ns.length ≤ 16) (hL : out.length ≤ 1099511627000) (hP : PassAt w base b out) (hA : Ptrs w b lb ads ns) :
    Calls Tryz.prog 124 #[.pointer (some ⟨b, 0, none⟩), .slice (some ⟨lb, 0, none⟩) ns.length cap] w fun e w' => Wrote base b (pNums (some out) ns) e w' ∧ Kp base b w w' := by
  have HA := show Hid (_ = _) from hA.1
  go_enter Tryz.func124, Tryz.ntmps124
  go_wp2
  go_loopw [5, 8] (fun _ iv wv => ∃ (k : Nat) (o : List UInt8), k ≤ ns.length ∧ iv = .int .i64 k ∧ Hid (pNums (some out) (ns.take k) = some o) ∧ o.length ≤ out.length + 6 * k ∧ PassAt wv base b o ∧ Kp base b w wv) (fun _ iv _ => ns.length - (intOf iv).toNat)
  case atStart => exact ⟨0, out, Nat.zero_le _, rfl, rfl, by omega, hP, Kp.refl _ _ _⟩
  case round =>
    obtain ⟨k, o, hk, rfl, Ho, hol, hPk, hKk⟩ := hrel
    by_cases hlt : k < ns.length
    · have hlt' : (k : Int) < (ns.length : Int) := by omega
      have hla : k < ads.length := by rw [HA.out]; exact hlt
      obtain ⟨p1, p2, p3⟩ := (hA.kp hKk).2.2 k ads[k] ns[k] (List.getElem?_eq_getElem hla) (List.getElem?_eq_getElem hlt)
      have Hst : Hid (_ = _) := pNums_take (some out) ns k ns[k] (List.getElem?_eq_getElem hlt)
      have Hdr := show Hid (_ = _) from pNums_drop (some out) ns (k + 1)
      generalize ads[k] = a at *
      generalize ns[k] = n at *
      go_wp2_with fail
      refine (number_any base b a n o _ (by omega) hPk p2).mono ?_
      rintro e w1 ⟨⟨o1, ho1, rfl, h1⟩ | ⟨ho1, rfl⟩, k1⟩
      · have hl1 := pNum_len ho1
        have Ho1 : Hid (pNums (some out) (ns.take (k + 1)) = some o1) := by show _ = _; rw [Hst.out, Ho.out]; exact ho1
        clear ho1 Hst
        go_wp2
        exact ⟨⟨k + 1, o1, by omega, by go_num, Ho1, by omega, h1, hKk.trans k1⟩, by simp [intOf]; omega⟩
      · have Hn : Hid (pNums (some out) ns = none) := by
          show _ = _
          rw [Hdr.out, Hst.out, Ho.out, ho1]; exact pNums_none _
        clear ho1 Hst Hdr
        go_wp2
        exact ⟨rfl, .inr ⟨Hn.out, rfl⟩, hKk.trans k1⟩
    · have hkk : k = ns.length := by omega
      have Hf : Hid (pNums (some out) ns = some o) := by
        have h := Ho.out
        rw [hkk, List.take_length] at h
        exact h
      have hge : ¬ (k : Int) < (ns.length : Int) := by omega
      clear hkk
      go_wp2
      go_end0
      exact ⟨.inl ⟨o, Hf.out, rfl, hPk⟩, hKk⟩
def flagB (x : Bool) : List UInt8 := [if x = true then 1 else 0]
set_option maxHeartbeats 800000 in
theorem flag_any (base b : Nat) (a : Addr) (x : Bool) (out : List UInt8) (w : World) (hL : out.length ≤ 1099511627776) (hP : PassAt w base b out) (ha : w.cell? a = some (.bool x)) :
    Calls Tryz.prog 125 #[.pointer (some ⟨b, 0, none⟩), .pointer (some a)] w fun e w' => e = .returned (.tuple #[]) ∧ PassAt w' base b (out ++ flagB x) ∧ Kp base b w w' := by
  obtain ⟨i0, hinf, hz0, hz1, hz2⟩ := info_parts infoByte
  obtain ⟨c0, _, _, _⟩ := hP.cells
  obtain ⟨v, kP, hown, hb⟩ := hP
  obtain ⟨av, cv, rfl⟩ := owns_form hown
  have hB0 : base ≤ w.heap.size := Nat.le_trans hb (Nat.le_of_lt kP.lt)
  have c1 := kP.cell 1
  have f1 := kP.frozen 1
  have hlt := kP.lt
  simp only [List.getElem?_toArray, List.getElem?_cons_succ, List.getElem?_cons_zero] at c1
  cases x
  · go_enter Tryz.func125, Tryz.ntmps125
    go_wp2_with (at_builtin; refine wpList_append_lies _ rfl _ _ _ rfl b 5 i0 (.int .u8 0) 1 1 Tryz.underlying183 hinf hz0 hz1 hz2 rfl (by omega) (.slice av out.length cv) out.length _ rfl (hown.alloc _) ⟨w.heap.size, 0, none⟩ 1 1 [.int .u8 0] rfl rfl ?c1 ?c2 (by omega) ?c3 ?c4 ?c5 (w.heap.size + 1) ?c6 ?_)
    case c1 => exact cell_one_new _ _ _
    case c2 => intro u hu; simp at hu; subst hu; rfl
    case c3 => unfold maxLen; omega
    case c4 => omega
    case c5 => simp; omega
    case c6 => simp
    intro g cg w2 hown2 hgrow hat hlt2
    have b1 : Below w.heap.size w (w.alloc (.cells #[.int .u8 0] 5)) := (Below.refl _ _).alloc (Nat.le_refl _) _
    obtain ⟨kP2, hP3, hK3⟩ := pass_stored (more := flagB false) (kP.below b1 kP.lt) (owns_below hown b1) hb hgrow hown2
    have hK := (Kp.of_below (base := base) (b := b) b1 hB0).trans hK3
    have d1 := kP2.cell 1
    have g1 := kP2.frozen 1
    have hlt3 := kP2.lt
    simp only [List.getElem?_toArray, List.getElem?_cons_succ, List.getElem?_cons_zero] at d1
    go_wp2
    go_end0
    exact ⟨rfl, hP3, hK⟩
  · go_enter Tryz.func125, Tryz.ntmps125
    go_wp2_with (at_builtin; refine wpList_append_lies _ rfl _ _ _ rfl b 5 i0 (.int .u8 0) 1 1 Tryz.underlying183 hinf hz0 hz1 hz2 rfl (by omega) (.slice av out.length cv) out.length _ rfl (hown.alloc _) ⟨w.heap.size, 0, none⟩ 1 1 [.int .u8 1] rfl rfl ?c1 ?c2 (by omega) ?c3 ?c4 ?c5 (w.heap.size + 1) ?c6 ?_)
    case c1 => exact cell_one_new _ _ _
    case c2 => intro u hu; simp at hu; subst hu; rfl
    case c3 => unfold maxLen; omega
    case c4 => omega
    case c5 => simp; omega
    case c6 => simp
    intro g cg w2 hown2 hgrow hat hlt2
    have b1 : Below w.heap.size w (w.alloc (.cells #[.int .u8 1] 5)) := (Below.refl _ _).alloc (Nat.le_refl _) _
    obtain ⟨kP2, hP3, hK3⟩ := pass_stored (more := flagB true) (kP.below b1 kP.lt) (owns_below hown b1) hb hgrow hown2
    have hK := (Kp.of_below (base := base) (b := b) b1 hB0).trans hK3
    have d1 := kP2.cell 1
    have g1 := kP2.frozen 1
    have hlt3 := kP2.lt
    simp only [List.getElem?_toArray, List.getElem?_cons_succ, List.getElem?_cons_zero] at d1
    go_wp2
    go_end0
    exact ⟨rfl, hP3, hK⟩
set_option maxHeartbeats 1600000 in
theorem digest_any (base b : Nat) (a : Addr) (d : Int) (out : List UInt8) (w : World) (hd : 0 ≤ d ∧ d ≤ 18446744073709551615) (hL : out.length ≤ 1099511627776) (hP : PassAt w base b out) (ha : w.cell? a = some (.int .u64 d)) :
    Calls Tryz.prog 126 #[.pointer (some ⟨b, 0, none⟩), .pointer (some a)] w fun e w' => e = .returned (.tuple #[]) ∧ PassAt w' base b (out ++ be d 8) ∧ Kp base b w w' := by
  obtain ⟨i0, hinf, hz0, hz1, hz2⟩ := info_parts infoByte
  obtain ⟨c0, _, _, _⟩ := hP.cells
  obtain ⟨v, kP, hown, hb⟩ := hP
  obtain ⟨av, cv, rfl⟩ := owns_form hown
  have hB0 : base ≤ w.heap.size := Nat.le_trans hb (Nat.le_of_lt kP.lt)
  have c1 := kP.cell 1
  have f1 := kP.frozen 1
  have hlt := kP.lt
  simp only [List.getElem?_toArray, List.getElem?_cons_succ, List.getElem?_cons_zero] at c1
  have hbk := be_len d 8
  have hszk : (⟨(be d 8).toArray⟩ : ByteArray).size = 8 := by simp [ByteArray.size, hbk]
  go_enter Tryz.func126, Tryz.ntmps126
  go_wp2_with fail
  go_region_law
    (first
    | (have hb34 := b34
       refine step_append_str _ (by rfl) _ _ _ _ (by rfl) b 5 i0 Tryz.underlying183 Tryz.underlying9 hinf hz0 hz1 hz2 (.slice av out.length cv) out.length (bcells out) (by rfl) (owns_below hown b34) ⟨(be d 8).toArray⟩ (by rfl) (by rw [hszk]; unfold maxLen; omega) (by rw [hszk]; omega) (Nat.le_of_lt lt4) ?_
       intro a5 c5 w5 hown5 hgrow5
       have hown5' : w5.ownsRow b 5 1 (.slice a5 (out.length + (⟨(be d 8).toArray⟩ : ByteArray).size) c5) (out.length + (be d 8).length) (bcells out ++ bcells (be d 8)) := by
         rw [← bcells_str]; exact hown5
       obtain ⟨kP5, hP6, hK6⟩ := pass_stored (more := be d 8) kP4 (owns_below hown b34) hb hgrow5 hown5'
       have c51 := kP5.cell 1
       have f51 := kP5.frozen 1
       have lt5 := kP5.lt
       simp only [List.getElem?_toArray, List.getElem?_cons_succ, List.getElem?_cons_zero] at c51)
    | (go_simp
       go_at_call 223
       refine (weight d _ hd).mono ?_
       rintro e w4 ⟨rfl, b4⟩
       have b34 : Below w.heap.size w w4 := ((Below.refl _ _).drew).trans b4
       have kP4 := kP.below b34 hlt
       have c41 := kP4.cell 1
       have f41 := kP4.frozen 1
       have lt4 := kP4.lt
       simp only [List.getElem?_toArray, List.getElem?_cons_succ, List.getElem?_cons_zero] at c41))
  all_goals
    rw [hszk] at hP6 hK6
    go_end0
    exact ⟨rfl, hP6, (Kp.of_below b34 hB0).trans hK6⟩
theorem catch_panicking (p : Addr) (x n : Int) (older : List PanicEntry) (w : World) (hc : w.cell? p = some (.int .i64 x)) (hz : w.frozen? p = false) :
  CallsD Tryz.prog 214 #[.pointer (some p)] (.panicking ({ v := .iface 297 (.int .i64 n), recovered := false } :: older)) w fun e u' w' =>
   e = .returned (.tuple #[]) ∧ u' = .panicking ({ v := .iface 297 (.int .i64 n), recovered := true } :: older) ∧ w' = w.setCell p (.int .i64 n) := by
 have hta : ∀ w : World, (Instr.typeAssert (.iface 297 (.int .i64 n)) 20 297 true).run Tryz.prog w = .ok (.tuple #[.int .i64 n, .bool true]) w := fun _ => by kernel_rfl
 refine callsD_of_wpS Tryz.func214 rfl fun c₀ cs hu => ?_
 apply wpS_seq
 apply wpS_region
 simp [wpOpsS, go_sem, recoverD, hu, Tryz.ntmps214, Exit.thenS]
 apply wpS_seq
 apply wpS_seq
 apply wpS_region
 simp [wpOpsS, go_sem, Exit.thenS]
 refine wpS_cond (t := false) (by simp [Act.eval, Array.replicate]) ?_
 simp only [Bool.false_eq_true, if_false]
 refine wpS_of_wp (wp_skip ?_)
 simp only [Exit.thenS]
 apply wpS_seq
 apply wpS_region
 simp [wpOpsS, go_sem, Exit.thenS, hta]
 apply wpS_seq
 apply wpS_seq
 apply wpS_region
 simp [wpOpsS, go_sem, Exit.thenS]
 refine wpS_cond (t := false) (by simp [Act.eval, Array.replicate]) ?_
 simp only [Bool.false_eq_true, if_false]
 refine wpS_of_wp (wp_skip ?_)
 simp only [Exit.thenS]
 apply wpS_region
 simp [wpOpsS, go_sem, hc, hz, bodyPostS, results, Tryz.results214]
theorem catch_idle (p : Addr) (w : World) :
  CallsD Tryz.prog 214 #[.pointer (some p)] .returning w fun e u' w' => e = .returned (.tuple #[]) ∧ u' = .returning ∧ w' = w := by
 refine callsD_of_wpS Tryz.func214 rfl fun c₀ cs hu => ?_
 apply wpS_seq
 apply wpS_region
 simp [wpOpsS, go_sem, recoverD, hu, Tryz.ntmps214, Exit.thenS]
 apply wpS_seq
 apply wpS_seq
 apply wpS_region
 simp [wpOpsS, go_sem, Exit.thenS]
 refine wpS_cond (t := true) (by simp [Act.eval, Array.replicate]) ?_
 simp only [if_true]
 refine wpS_of_wp (wp_ret ?_)
 cases c₀
 simp_all [bodyPostS, results, Tryz.results214, Exit.thenS]
theorem conv_own {w : World} {base : Nat} {v : Value} {out : List UInt8} (h : w.ownsRow base 5 1 v out.length (bcells out)) : (convert 183 9 v).run Tryz.prog w = .ok (.string ⟨out.toArray⟩) w := by
 rcases h.2 with ⟨rfl, h0⟩ | ⟨g, cap, cur, rfl, _⟩
 ·have e : out = [] := List.eq_nil_of_length_eq_zero h0
  subst e
  exact run_convert_bytes_nil (P := Tryz.prog) w 183 5 Tryz.underlying183 Tryz.underlying5 0 0 9 Tryz.underlying9
 ·have hc := run_convert_bytes_arg (P := Tryz.prog) w 183 5 Tryz.underlying183 Tryz.underlying5 g 0 out.length cap (out.map fun b => (b.toNat : Int)) (by simp) (fun i hi => by
   have hx := h.cells (g := g) rfl i (Value.int .u8 (out[i].toNat : Int)) (by simp [bcells, hi])
   rw [show (⟨g, 0, none⟩ : Addr).add i = ⟨g, 0 + i, none⟩ by unfold Addr.add; split <;> simp_all] at hx
   rw [hx]
   simp [List.getD, hi]) 9 Tryz.underlying9
  have e : strOfNums (out.map fun b => (b.toNat : Int)) = ⟨out.toArray⟩ := by
   unfold strOfNums
   rw [List.map_map, List.map_congr_left (g := id) (fun b _ => by simp), List.map_id]
  rw [hc, e]
theorem PassAt.setOther {w : World} {base b k : Nat} {out : List UInt8} {cs : Array Value} {t : TypeId} (h : PassAt w base b out) (hk : Blk w k cs t) (ht : t ≠ 5) (hne : b ≠ k) (i : Nat) (v : Value) : PassAt (w.setCell ⟨k, i, none⟩ v) base b out := by
 obtain ⟨u, h1, h2, h3⟩ := h
 exact ⟨u, h1.setOther ⟨k, i, none⟩ hne v, owns_set h2 hk ht i v, h3⟩
inductive Atom where
 | num (most n : Int)
 | raw (l : List UInt8)
def Atom.ok : Atom → Bool
 | .num most n => decide (0 ≤ n) && decide (n ≤ most)
 | .raw _ => true
def Atom.enc : Atom → List UInt8
 | .num _ n => numB n
 | .raw l => l
def Atom.encZ : Atom → List UInt8
 | .num _ n => numZ n
 | .raw l => l
def Atom.fit : Atom → Prop
 | .num most _ => most ≤ 1099511627775
 | .raw _ => True
def Atom.wt : Atom → Nat
 | .num _ _ => 6
 | .raw l => l.length
def okL : List Atom → Bool
 | [] => true
 | a :: l => a.ok && okL l
def encL : List Atom → List UInt8
 | [] => []
 | a :: l => a.enc ++ encL l
def encZL : List Atom → List UInt8
 | [] => []
 | a :: l => a.encZ ++ encZL l
def wtL : List Atom → Nat
 | [] => 0
 | a :: l => a.wt + wtL l
def fitL : List Atom → Prop
 | [] => True
 | a :: l => a.fit ∧ fitL l
theorem okL_append (l m : List Atom) : okL (l ++ m) = (okL l && okL m) := by
 induction l with
 | nil => simp [okL]
 | cons a l ih => simp [okL, ih, Bool.and_assoc]
theorem encL_append (l m : List Atom) : encL (l ++ m) = encL l ++ encL m := by
 induction l with
 | nil => simp [encL]
 | cons a l ih => simp [encL, ih]
theorem encZL_append (l m : List Atom) : encZL (l ++ m) = encZL l ++ encZL m := by
 induction l with
 | nil => simp [encZL]
 | cons a l ih => simp [encZL, ih]
theorem wtL_append (l m : List Atom) : wtL (l ++ m) = wtL l + wtL m := by
 induction l with
 | nil => simp [wtL]
 | cons a l ih => simp [wtL, ih]; omega
theorem fitL_append (l m : List Atom) : fitL (l ++ m) ↔ fitL l ∧ fitL m := by
 induction l with
 | nil => simp [fitL]
 | cons a l ih => simp [fitL, ih, and_assoc]
theorem Atom.enc_len (a : Atom) : a.enc.length ≤ a.wt := by
 cases a with
 | num most n => exact numB_len n
 | raw l => exact Nat.le_refl _
theorem Atom.encZ_len (a : Atom) : a.encZ.length ≤ a.wt := by
 cases a with
 | num most n => exact numZ_len n
 | raw l => exact Nat.le_refl _
theorem encL_len (l : List Atom) : (encL l).length ≤ wtL l := by
 induction l with
 | nil => simp [encL, wtL]
 | cons a l ih => have := a.enc_len; simp [encL, wtL]; omega
theorem encZL_len (l : List Atom) : (encZL l).length ≤ wtL l := by
 induction l with
 | nil => simp [encZL, wtL]
 | cons a l ih => have := a.encZ_len; simp [encZL, wtL]; omega
theorem Atom.enc_eq (a : Atom) (h : a.fit) (ho : a.ok = true) : a.enc = a.encZ := by
 cases a with
 | num most n =>
  simp only [Atom.ok, Bool.and_eq_true, decide_eq_true_eq] at ho
  have hf : most ≤ 1099511627775 := h
  have hi : inNum n = true := by simp [inNum]; omega
  simp [Atom.enc, Atom.encZ, numZ, hi]
 | raw l => rfl
theorem encL_eq (l : List Atom) (h : fitL l) (ho : okL l = true) : encL l = encZL l := by
 induction l with
 | nil => rfl
 | cons a l ih =>
  simp only [okL, Bool.and_eq_true] at ho
  simp only [encL, encZL]
  rw [ih h.2 ho.2, a.enc_eq h.1 ho.1]
theorem far_num (most n : Int) (hm : most ≤ 1099511627775) : (decide (most < n) || !inNum n) = !(Atom.num most n).ok := by
 simp only [inNum, Atom.ok]
 by_cases h0 : 0 ≤ n
 ·by_cases h1 : n ≤ most
  ·have h2 : n ≤ 1099511627775 := by omega
   have h3 : ¬ most < n := by omega
   simp [h0, h1, h2, h3]
  ·have h3 : most < n := by omega
   simp [h0, h1, h3]
 ·simp [h0]
theorem far_plain (n : Int) : (!inNum n) = !(Atom.num 1099511627775 n).ok := rfl
def Wr (base b : Nat) (out : List UInt8) (l : List Atom) (e : Ending) (w' : World) : Prop :=
 (okL l = true ∧ e = .returned (.tuple #[]) ∧ PassAt w' base b (out ++ encL l)) ∨ (okL l = false ∧ e = .panicked [{ v := .iface 297 (.int .i64 3), recovered := false }])
def nums (ns : List Int) : List Atom := ns.map (Atom.num 1099511627775)
theorem pNum_at (most : Int) (out : List UInt8) (n : Int) : pNum most (some out) n = if okL [Atom.num most n] = true then some (out ++ encL [Atom.num most n]) else none := by
 simp [pNum, okL, Atom.ok, encL, Atom.enc]
theorem pNums_at (out : List UInt8) (ns : List Int) : pNums (some out) ns = if okL (nums ns) = true then some (out ++ encL (nums ns)) else none := by
 induction ns generalizing out with
 | nil => simp [pNums, nums, okL, encL]
 | cons n r ih =>
  show pNums (pNum 1099511627775 (some out) n) r = _
  rw [pNum_at]
  simp only [nums, List.map_cons, okL, encL, Bool.and_true, List.append_nil]
  by_cases h : (Atom.num 1099511627775 n).ok = true
  ·rw [if_pos h, ih]
   simp only [nums, h, Bool.true_and, List.append_assoc]
  ·rw [if_neg h, pNums_none, if_neg (by simp [h])]
theorem Wrote.wr {base b : Nat} {o : Option (List UInt8)} {out : List UInt8} {l : List Atom} {e : Ending} {w' : World} (h : Wrote base b o e w') (ho : o = if okL l = true then some (out ++ encL l) else none) : Wr base b out l e w' := by
 rcases h with ⟨o1, h1, h2, h3⟩ | ⟨h1, h2⟩
 ·by_cases hk : okL l = true
  ·rw [h1, if_pos hk] at ho
   cases ho
   exact .inl ⟨hk, h2, h3⟩
  ·rw [h1, if_neg hk] at ho
   cases ho
 ·by_cases hk : okL l = true
  ·rw [h1, if_pos hk] at ho
   cases ho
  ·exact .inr ⟨by simpa using hk, h2⟩
inductive Fld where
 | i (n : Int)
 | d (n : Int)
 | b (x : Bool)
 | s (t : List UInt8)
 | l (la : Option Addr) (lc : Nat) (es : List (List Fld))
def Fld.val : Fld → Value
 | .i n => .int .i64 n
 | .d n => .int .u64 n
 | .b x => .bool x
 | .s t => .string ⟨t.toArray⟩
 | .l la lc es => .slice la es.length lc
mutual
def Fld.good (base : Nat) (w : World) : Fld → Prop
 | .i n => -9223372036854775808 ≤ n ∧ n ≤ 9223372036854775807
 | .d n => 0 ≤ n ∧ n ≤ 18446744073709551615
 | .b _ => True
 | .s _ => True
 | .l la lc es => es.length ≤ lc ∧ lc ≤ maxLen ∧ (es = [] ∨ ∃ rb ro, la = some ⟨rb, ro, none⟩ ∧ rb < base ∧ rb < w.heap.size ∧ RowsAt base w rb ro es)
def RowsAt (base : Nat) (w : World) (rb : Nat) : Nat → List (List Fld) → Prop
 | _, [] => True
 | ro, e :: es => CellsAt base w rb ro e ∧ RowsAt base w rb (ro + e.length) es
def CellsAt (base : Nat) (w : World) (rb : Nat) : Nat → List Fld → Prop
 | _, [] => True
 | o, f :: fs => w.cell? ⟨rb, o, none⟩ = some f.val ∧ f.good base w ∧ CellsAt base w rb (o + 1) fs
end
mutual
theorem Fld.good_below {base : Nat} {w w' : World} (hb : Below base w w') : ∀ f : Fld, f.good base w → f.good base w'
 | .i _, h => h
 | .d _, h => h
 | .b _, _ => trivial
 | .s _, _ => trivial
 | .l la lc es, h => by
  obtain ⟨h1, h2, h3⟩ := h
  refine ⟨h1, h2, ?_⟩
  rcases h3 with h3 | ⟨rb, ro, e, hl, hz, hr⟩
  ·exact .inl h3
  ·exact .inr ⟨rb, ro, e, hl, Nat.lt_of_lt_of_le hz hb.size, RowsAt.at_below hb rb hl ro es hr⟩
theorem RowsAt.at_below {base : Nat} {w w' : World} (hb : Below base w w') (rb : Nat) (hl : rb < base) : ∀ (ro : Nat) (es : List (List Fld)), RowsAt base w rb ro es → RowsAt base w' rb ro es
 | _, [], _ => trivial
 | ro, e :: es, h => ⟨CellsAt.at_below hb rb hl ro e h.1, RowsAt.at_below hb rb hl (ro + e.length) es h.2⟩
theorem CellsAt.at_below {base : Nat} {w w' : World} (hb : Below base w w') (rb : Nat) (hl : rb < base) : ∀ (o : Nat) (fs : List Fld), CellsAt base w rb o fs → CellsAt base w' rb o fs
 | _, [], _ => trivial
 | o, f :: fs, h => ⟨by rw [hb.cell (p := ⟨rb, o, none⟩) hl]; exact h.1, Fld.good_below hb f h.2.1, CellsAt.at_below hb rb hl (o + 1) fs h.2.2⟩
end
mutual
theorem Fld.good_mono {base base' : Nat} {w : World} (hb : base ≤ base') : ∀ f : Fld, f.good base w → f.good base' w
 | .i _, h => h
 | .d _, h => h
 | .b _, _ => trivial
 | .s _, _ => trivial
 | .l la lc es, h => by
  obtain ⟨h1, h2, h3⟩ := h
  refine ⟨h1, h2, ?_⟩
  rcases h3 with h3 | ⟨rb, ro, e, hl, hz, hr⟩
  ·exact .inl h3
  ·exact .inr ⟨rb, ro, e, Nat.lt_of_lt_of_le hl hb, hz, RowsAt.at_mono hb rb ro es hr⟩
theorem RowsAt.at_mono {base base' : Nat} {w : World} (hb : base ≤ base') (rb : Nat) : ∀ (ro : Nat) (es : List (List Fld)), RowsAt base w rb ro es → RowsAt base' w rb ro es
 | _, [], _ => trivial
 | ro, e :: es, h => ⟨CellsAt.at_mono hb rb ro e h.1, RowsAt.at_mono hb rb (ro + e.length) es h.2⟩
theorem CellsAt.at_mono {base base' : Nat} {w : World} (hb : base ≤ base') (rb : Nat) : ∀ (o : Nat) (fs : List Fld), CellsAt base w rb o fs → CellsAt base' w rb o fs
 | _, [], _ => trivial
 | o, f :: fs, h => ⟨h.1, Fld.good_mono hb f h.2.1, CellsAt.at_mono hb rb (o + 1) fs h.2.2⟩
end
def goods (base : Nat) (w : World) (fs : List Fld) : Prop := ∀ f ∈ fs, f.good base w
theorem goods.below {base : Nat} {w w' : World} {fs : List Fld} (h : goods base w fs) (hb : Below base w w') : goods base w' fs := fun f hf => Fld.good_below hb f (h f hf)
theorem goods.mono {base base' : Nat} {w : World} {fs : List Fld} (h : goods base w fs) (hb : base ≤ base') : goods base' w fs := fun f hf => Fld.good_mono hb f (h f hf)
theorem goods.app {base : Nat} {w : World} {fs gs : List Fld} (h : goods base w (fs ++ gs)) : goods base w fs ∧ goods base w gs :=
 ⟨fun f hf => h f (List.mem_append_left _ hf), fun f hf => h f (List.mem_append_right _ hf)⟩
theorem goods.mk {base : Nat} {w : World} {fs gs : List Fld} (h : goods base w fs) (g : goods base w gs) : goods base w (fs ++ gs) := fun f hf => (List.mem_append.1 hf).elim (h f) (g f)
theorem goods.get {base : Nat} {w : World} {fs : List Fld} (h : goods base w fs) (i : Nat) {f : Fld} (hi : fs[i]? = some f) : f.good base w := h f (List.mem_of_getElem? hi)
theorem CellsAt.goods {base : Nat} {w : World} {rb : Nat} : ∀ {o : Nat} {fs : List Fld}, CellsAt base w rb o fs → Go.Proofs.YtackcbpabjhmpaaGreat.goods base w fs
 | _, [], _ => fun f hf => by simp at hf
 | o, f :: fs, h => fun g hg => by
  rcases List.mem_cons.1 hg with rfl | hg
  ·exact h.2.1
  ·exact CellsAt.goods h.2.2 g hg
theorem CellsAt.get {base : Nat} {w : World} {rb : Nat} : ∀ {o : Nat} {fs : List Fld}, CellsAt base w rb o fs → ∀ (i : Nat) {f : Fld}, fs[i]? = some f → w.cell? ⟨rb, o + i, none⟩ = some f.val
 | _, [], _, i, f, hi => by simp at hi
 | o, g :: fs, h, 0, f, hi => by
  simp at hi
  subst hi
  exact h.1
 | o, g :: fs, h, i + 1, f, hi => by
  have := CellsAt.get h.2.2 i (f := f) (by simpa using hi)
  rw [show o + (i + 1) = o + 1 + i by omega]
  exact this
theorem CellsAt.get0 {base : Nat} {w : World} {rb o : Nat} {fs : List Fld} (h : CellsAt base w rb o fs) {f : Fld} (hi : fs[0]? = some f) : w.cell? ⟨rb, o, none⟩ = some f.val := h.get 0 hi
theorem CellsAt.app {base : Nat} {w : World} {rb : Nat} : ∀ {o : Nat} {fs gs : List Fld}, CellsAt base w rb o (fs ++ gs) → CellsAt base w rb o fs ∧ CellsAt base w rb (o + fs.length) gs
 | o, [], gs, h => ⟨trivial, h⟩
 | o, f :: fs, gs, h => by
  obtain ⟨h1, h2, h3⟩ := h
  obtain ⟨a, c⟩ := CellsAt.app h3
  refine ⟨⟨h1, h2, a⟩, ?_⟩
  rw [List.length_cons, show o + (fs.length + 1) = o + 1 + fs.length by omega]
  exact c
theorem CellsAt.mk {base : Nat} {w : World} {rb : Nat} : ∀ {o : Nat} {fs : List Fld}, (∀ i f, fs[i]? = some f → w.cell? ⟨rb, o + i, none⟩ = some f.val) → Go.Proofs.YtackcbpabjhmpaaGreat.goods base w fs → CellsAt base w rb o fs
 | _, [], _, _ => trivial
 | o, f :: fs, h, g => ⟨h 0 f rfl, g f (by simp), CellsAt.mk (fun i f' hi => by
   have := h (i + 1) f' (by simpa using hi)
   rw [show o + 1 + i = o + (i + 1) by omega]
   exact this) fun f' hf => g f' (by simp [hf])⟩
theorem CellsAt.kp {base b : Nat} {w w' : World} {rb o : Nat} {fs : List Fld} (h : CellsAt base w rb o fs) (hs : Safe w b rb) (hK : Kp base b w w') : CellsAt base w' rb o fs :=
 CellsAt.mk (fun i f hi => by rw [Safe.cell (a := ⟨rb, o + i, none⟩) hs hK]; exact h.get i hi) (h.goods.below hK.below)
theorem CellsAt.of_blk {base : Nat} {w : World} {rb : Nat} {cs : Array Value} {t : TypeId} {fs : List Fld} (h : Blk w rb cs t) (e : cs.toList = fs.map Fld.val) (g : Go.Proofs.YtackcbpabjhmpaaGreat.goods base w fs) : CellsAt base w rb 0 fs :=
 CellsAt.mk (fun i f hi => by
  rw [h.cell, Nat.zero_add, ← Array.getElem?_toList, e, List.getElem?_map, hi]; rfl) g
theorem RowsAt.get {base : Nat} {w : World} {rb : Nat} {α : Type} (flds : α → List Fld) (sz : Nat) (hz : ∀ x, (flds x).length = sz) : ∀ {ro : Nat} {xs : List α}, RowsAt base w rb ro (xs.map flds) → ∀ (i : Nat) {x : α}, xs[i]? = some x → CellsAt base w rb (ro + i * sz) (flds x)
 | _, [], _, i, x, hi => by simp at hi
 | ro, y :: xs, h, 0, x, hi => by
  simp at hi
  subst hi
  rw [Nat.zero_mul, Nat.add_zero]
  exact h.1
 | ro, y :: xs, h, i + 1, x, hi => by
  have h2 : RowsAt base w rb (ro + (flds y).length) (xs.map flds) := h.2
  rw [hz] at h2
  have := RowsAt.get flds sz hz h2 i (x := x) (by simpa using hi)
  rw [show ro + (i + 1) * sz = ro + sz + i * sz by rw [Nat.add_mul]; omega]
  exact this
theorem RowsAt.mk {base : Nat} {w : World} {rb : Nat} {α : Type} (flds : α → List Fld) (sz : Nat) (hz : ∀ x, (flds x).length = sz) : ∀ {ro : Nat} {xs : List α}, (∀ i x, xs[i]? = some x → CellsAt base w rb (ro + i * sz) (flds x)) → RowsAt base w rb ro (xs.map flds)
 | _, [], _ => trivial
 | ro, y :: xs, h => by
  refine ⟨by have := h 0 y rfl; rwa [Nat.zero_mul, Nat.add_zero] at this, RowsAt.mk flds sz hz fun i x hi => ?_⟩
  have := h (i + 1) x (by simpa using hi)
  rw [hz, show ro + sz + i * sz = ro + (i + 1) * sz by rw [Nat.add_mul]; omega]
  exact this
structure Lst (α : Type) where
 la : Option Addr
 lc : Nat
 xs : List α
def Lst.fld {α : Type} (flds : α → List Fld) (l : Lst α) : Fld := .l l.la l.lc (l.xs.map flds)
theorem Lst.val {α : Type} (flds : α → List Fld) (l : Lst α) : (l.fld flds).val = .slice l.la l.xs.length l.lc := by simp [Lst.fld, Fld.val]
def Lst.Held {α : Type} (flds : α → List Fld) (sz base : Nat) (w : World) (l : Lst α) : Prop :=
 l.xs.length ≤ l.lc ∧ l.lc ≤ maxLen ∧ (l.xs = [] ∨ ∃ rb ro, l.la = some ⟨rb, ro, none⟩ ∧ rb < base ∧ rb < w.heap.size ∧ ∀ i x, l.xs[i]? = some x → CellsAt base w rb (ro + i * sz) (flds x))
theorem Lst.held {α : Type} {flds : α → List Fld} {sz base : Nat} {w : World} {l : Lst α} (hz : ∀ x, (flds x).length = sz) (h : (l.fld flds).good base w) : l.Held flds sz base w := by
 obtain ⟨h1, h2, h3⟩ := h
 refine ⟨by simpa using h1, h2, ?_⟩
 rcases h3 with h3 | ⟨rb, ro, e, hl, hz', hr⟩
 ·exact .inl (by simpa using h3)
 ·exact .inr ⟨rb, ro, e, hl, hz', fun i x hi => RowsAt.get flds sz hz hr i hi⟩
theorem Lst.good {α : Type} {flds : α → List Fld} {sz base : Nat} {w : World} {l : Lst α} (hz : ∀ x, (flds x).length = sz) (h : l.Held flds sz base w) : (l.fld flds).good base w := by
 obtain ⟨h1, h2, h3⟩ := h
 refine ⟨by simpa using h1, h2, ?_⟩
 rcases h3 with h3 | ⟨rb, ro, e, hl, hz', hr⟩
 ·exact .inl (by simp [h3])
 ·exact .inr ⟨rb, ro, e, hl, hz', RowsAt.mk flds sz hz hr⟩
theorem Lst.Held.below {α : Type} {flds : α → List Fld} {sz base : Nat} {w w' : World} {l : Lst α} (h : l.Held flds sz base w) (hb : Below base w w') : l.Held flds sz base w' := by
 obtain ⟨h1, h2, h3⟩ := h
 refine ⟨h1, h2, ?_⟩
 rcases h3 with h3 | ⟨rb, ro, e, hl, hz', hr⟩
 ·exact .inl h3
 ·exact .inr ⟨rb, ro, e, hl, Nat.lt_of_lt_of_le hz' hb.size, fun i x hi => CellsAt.at_below hb rb hl _ _ (hr i x hi)⟩
def eachL {α : Type} (atoms : α → List Atom) : List α → List Atom
 | [] => []
 | x :: xs => atoms x ++ eachL atoms xs
theorem eachL_append {α : Type} (atoms : α → List Atom) (xs ys : List α) : eachL atoms (xs ++ ys) = eachL atoms xs ++ eachL atoms ys := by
 induction xs with
 | nil => rfl
 | cons x xs ih => simp [eachL, ih]
theorem eachL_take {α : Type} (atoms : α → List Atom) (xs : List α) (k : Nat) (x : α) (h : xs[k]? = some x) : eachL atoms (xs.take (k + 1)) = eachL atoms (xs.take k) ++ atoms x := by
 have e : xs.take (k + 1) = xs.take k ++ [x] := by
  rw [List.take_add_one, h]; rfl
 rw [e, eachL_append]
 simp [eachL]
theorem eachL_drop {α : Type} (atoms : α → List Atom) (xs : List α) (k : Nat) : eachL atoms xs = eachL atoms (xs.take k) ++ eachL atoms (xs.drop k) := by
 rw [← eachL_append, List.take_append_drop]
theorem eachL_wt {α : Type} (atoms : α → List Atom) (xs : List α) (k : Nat) (x : α) (h : xs[k]? = some x) : wtL (eachL atoms (xs.take k)) + wtL (atoms x) ≤ wtL (eachL atoms xs) := by
 rw [eachL_drop atoms xs (k + 1), eachL_take atoms xs k x h, wtL_append, wtL_append]; omega
theorem eachL_fit {α : Type} (atoms : α → List Atom) (xs : List α) (h : ∀ x ∈ xs, fitL (atoms x)) : fitL (eachL atoms xs) := by
 induction xs with
 | nil => trivial
 | cons x xs ih => exact (fitL_append _ _).2 ⟨h x (by simp), ih fun y hy => h y (by simp [hy])⟩
def listL {α : Type} (most : Int) (atoms : α → List Atom) (xs : List α) : List Atom := Atom.num most xs.length :: eachL atoms xs
theorem listL_fit {α : Type} (most : Int) (atoms : α → List Atom) (xs : List α) (hm : most ≤ 1099511627775) (h : ∀ x ∈ xs, fitL (atoms x)) : fitL (listL most atoms xs) := ⟨hm, eachL_fit atoms xs h⟩
def textL (most : Int) (s : List UInt8) : List Atom := [Atom.num most s.length, Atom.raw s]
def flagL (x : Bool) : List Atom := [Atom.raw (flagB x)]
def digL (d : Int) : List Atom := [Atom.raw (be d 8)]
structure But (S : Nat → Prop) (w w' : World) : Prop where
 os : w'.os = w.os
 tape : w'.tape = w.tape
 output : w'.output = w.output
 size : w.heap.size ≤ w'.heap.size
 block : ∀ k, k < w.heap.size → ¬ S k → w'.heap[k]? = w.heap[k]?
theorem But.of_below {S : Nat → Prop} {w w' : World} (h : Below w.heap.size w w') : But S w w' := ⟨h.os, h.tape, h.output, h.size, fun k hk _ => h.block k hk⟩
theorem But.refl (S : Nat → Prop) (w : World) : But S w w := ⟨rfl, rfl, rfl, Nat.le_refl _, fun _ _ _ => rfl⟩
theorem But.trans {S : Nat → Prop} {a b c : World} (h : But S a b) (k : But S b c) : But S a c :=
 ⟨k.os.trans h.os, k.tape.trans h.tape, k.output.trans h.output, Nat.le_trans h.size k.size, fun i hi hn => (k.block i (Nat.lt_of_lt_of_le hi h.size) hn).trans (h.block i hi hn)⟩
theorem But.trans_new {S T : Nat → Prop} {a b c : World} (h : But S a b) (k : But T b c) (hs : ∀ k, k < a.heap.size → T k → S k) : But S a c :=
 ⟨k.os.trans h.os, k.tape.trans h.tape, k.output.trans h.output, Nat.le_trans h.size k.size, fun i hi hn => (k.block i (Nat.lt_of_lt_of_le hi h.size) (fun q => hn (hs i hi q))).trans (h.block i hi hn)⟩
theorem But.set {S : Nat → Prop} (w : World) {p : Addr} (hp : S p.block) (v : Value) : But S w (w.setCell p v) :=
 ⟨rfl, rfl, rfl, by rw [World.size_setCell]; exact Nat.le_refl _, fun k hk hn => Below.heap_setCell _ _ _ _ (fun e => hn (by rw [e]; exact hp))⟩
theorem But.of_grown {S : Nat → Prop} {w w' : World} {row : Option Nat} (h : w.grownBy w' row) (hr : ∀ k, row = some k → S k) : But S w w' :=
 ⟨h.os, h.tape, h.output, h.size, fun k hk hn => h.block k hk (fun e => hn (hr k e.symm))⟩
theorem But.mono {S T : Nat → Prop} {w w' : World} (h : But S w w') (hs : ∀ k, S k → T k) : But T w w' := ⟨h.os, h.tape, h.output, h.size, fun k hk hn => h.block k hk (fun q => hn (hs k q))⟩
theorem But.below {S : Nat → Prop} {w w' : World} (h : But S w w') {B : Nat} (hB : B ≤ w.heap.size) (hs : ∀ k, S k → B ≤ k) : Below B w w' :=
 ⟨h.os, h.tape, h.output, h.size, fun k hk => h.block k (by omega) (fun q => by have := hs k q; omega)⟩
theorem But.blk {S : Nat → Prop} {w w' : World} (h : But S w w') {b : Nat} {cs : Array Value} {t : TypeId} (k : Blk w b cs t) (hb : ¬ S b) : Blk w' b cs t := by
 have := h.block b k.lt hb
 unfold Blk at *
 rw [this]; exact k
theorem But.cell {S : Nat → Prop} {w w' : World} (h : But S w w') {p : Addr} (hp : p.block < w.heap.size) (hb : ¬ S p.block) : w'.cell? p = w.cell? p := by
 have := h.block _ hp hb
 unfold World.cell?
 rw [this]
def val (l : List UInt8) : Nat := l.foldl (fun n b => n * 256 + b.toNat) 0
theorem val_snoc (l : List UInt8) (b : UInt8) : val (l ++ [b]) = val l * 256 + b.toNat := by simp [val, List.foldl_append]
theorem val_lt_aux (l : List UInt8) : ∀ n : Nat, l.foldl (fun n b => n * 256 + b.toNat) n < (n + 1) * 256 ^ l.length := by
 induction l with
 | nil => intro n; simp
 | cons b r ih =>
  intro n
  have h := ih (n * 256 + b.toNat)
  have hb : b.toNat < 256 := b.toNat_lt
  simp only [List.foldl_cons, List.length_cons]
  refine Nat.lt_of_lt_of_le h ?_
  rw [Nat.pow_succ, Nat.mul_comm (256 ^ r.length) 256, ← Nat.mul_assoc]
  exact Nat.mul_le_mul_right _ (by omega)
theorem val_lt (l : List UInt8) : val l < 256 ^ l.length := by have := val_lt_aux l 0; simpa [val] using this
theorem be_snocL (n : Int) (k : Nat) : be n (k + 1) = be (n / 256) k ++ [byteAt n] := by
 induction k with
 | zero => simp [be]
 | succ k ih =>
  rw [be, ih]
  rw [show be (n / 256) (k + 1) = byteAt (n / 256 / 256 ^ k) :: be (n / 256) k from rfl]
  rw [List.cons_append]
  congr 2
  rw [Int.ediv_ediv_of_nonneg (by omega), Int.pow_succ, Int.mul_comm]
theorem byteAt_nat (n : Int) : ((byteAt n).toNat : Int) = n % 256 := by
 unfold byteAt
 have h1 : 0 ≤ n % 256 := by omega
 have h2 : n % 256 < 256 := by omega
 have : (UInt8.ofNat (n % 256).toNat).toNat = (n % 256).toNat := by
  rw [UInt8.toNat_ofNat']
  omega
 rw [this]; omega
end Go.Proofs.YtackcbpabjhmpaaGreat
