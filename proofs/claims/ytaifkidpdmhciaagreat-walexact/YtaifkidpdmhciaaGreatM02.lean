/- A pass that writes: numbers, flags, digests. -/
import Derived.Test.YtaifkidpdmhciaaGreatM01

namespace Go.Proofs.YtaifkidpdmhciaaGreat
open Go.RowKit
set_option linter.unusedVariables false

theorem number_any (base b : Nat) (a : Addr) (n : Int) (out : List UInt8) (w : World) (hL : out.length ≤ 1099511627776) (hP : PassAt w base b out) (ha : w.cell? a = some (.int .i64 n)) :
    Calls Tryz.prog 57 #[.pointer (some ⟨b, 0, none⟩), .pointer (some a)] w fun e w' => Wrote base b (pNum 1099511627775 (some out) n) e w' ∧ Kp base b w w' := by
  go_enter Tryz.func57, Tryz.ntmps57
  go_wp2_with fail
  refine (bounded_any base b a n 1099511627775 out _ (by omega) hL hP ha).mono ?_
  rintro e w1 ⟨⟨o, ho, rfl, h1⟩ | ⟨ho, rfl⟩, k1⟩
  · go_wp2
    go_end0
    exact ⟨.inl ⟨o, ho, rfl, h1⟩, k1⟩
  · go_wp2
    exact ⟨rfl, .inr ⟨ho, rfl⟩, k1⟩

def pNums (o : Option (List UInt8)) (ns : List Int) : Option (List UInt8) := ns.foldl (pNum 1099511627775) o
theorem pNums_none (ns : List Int) : pNums none ns = none := by
  induction ns with
  | nil => rfl
  | cons n r ih => exact ih
theorem pNum_len {most n : Int} {out o : List UInt8} (h : pNum most (some out) n = some o) : o.length ≤ out.length + 6 := by
  unfold pNum at h
  simp only [Option.bind_some] at h
  split at h
  · simp only [Option.some.injEq] at h
    subst h
    have := numB_len n
    simp; omega
  · cases h
theorem pNums_take (o : Option (List UInt8)) (ns : List Int) (k : Nat) (n : Int) (h : ns[k]? = some n) : pNums o (ns.take (k + 1)) = pNum 1099511627775 (pNums o (ns.take k)) n := by
  have e : ns.take (k + 1) = ns.take k ++ [n] := by
    rw [List.take_add_one, h]; rfl
  rw [e]
  unfold pNums
  rw [List.foldl_append]; rfl
theorem pNums_drop (o : Option (List UInt8)) (ns : List Int) (k : Nat) : pNums o ns = pNums (pNums o (ns.take k)) (ns.drop k) := by
  unfold pNums
  rw [← List.foldl_append, List.take_append_drop]

/-- Addresses of numbers, in memory. -/
def Ptrs (w : World) (b lb : Nat) (ads : List Addr) (ns : List Int) : Prop :=
  ads.length = ns.length ∧ Safe w b lb ∧ ∀ i a n, ads[i]? = some a → ns[i]? = some n → w.cell? ⟨lb, i, none⟩ = some (.pointer (some a)) ∧ w.cell? a = some (.int .i64 n) ∧ Safe w b a.block
theorem Safe.cell {base b : Nat} {w w' : World} {a : Addr} (h : Safe w b a.block) (hK : Kp base b w w') : w'.cell? a = w.cell? a := World.cell?_of_block (hK.safe _ h)
theorem Ptrs.kp {w w' : World} {base b lb : Nat} {ads : List Addr} {ns : List Int} (h : Ptrs w b lb ads ns) (hK : Kp base b w w') : Ptrs w' b lb ads ns := by
  refine ⟨h.1, h.2.1.kp hK, fun i a n ha hn => ?_⟩
  obtain ⟨h1, h2, h3⟩ := h.2.2 i a n ha hn
  exact ⟨by rw [Safe.cell (a := ⟨lb, i, none⟩) h.2.1 hK]; exact h1, by rw [h3.cell hK]; exact h2, h3.kp hK⟩

set_option maxHeartbeats 800000 in
theorem numbers_any (base b lb cap : Nat) (ads : List Addr) (ns : List Int) (out : List UInt8) (w : World) (hn : ns.length ≤ 16) (hL : out.length ≤ 1099511627000) (hP : PassAt w base b out) (hA : Ptrs w b lb ads ns) :
    Calls Tryz.prog 85 #[.pointer (some ⟨b, 0, none⟩), .slice (some ⟨lb, 0, none⟩) ns.length cap] w fun e w' => Wrote base b (pNums (some out) ns) e w' ∧ Kp base b w w' := by
  have HA := show Hid (_ = _) from hA.1
  go_enter Tryz.func85, Tryz.ntmps85
  go_wp2
  go_loopw [5, 8] (fun _ iv wv => ∃ (k : Nat) (o : List UInt8), k ≤ ns.length ∧ iv = .int .i64 k ∧ Hid (pNums (some out) (ns.take k) = some o) ∧ o.length ≤ out.length + 6 * k ∧ PassAt wv base b o ∧ Kp base b w wv) (fun _ iv _ => ns.length - (intOf iv).toNat)
  case atStart => exact ⟨0, out, Nat.zero_le _, rfl, rfl, by omega, hP, Kp.refl _ _ _⟩
  case round =>
    obtain ⟨k, o, hk, rfl, Ho, hol, hPk, hKk⟩ := hrel
    by_cases hlt : k < ns.length
    · have hlt' : (k : Int) < (ns.length : Int) := by omega
      have hla : k < ads.length := by rw [HA.out]; exact hlt
      obtain ⟨p1, p2, p3⟩ := (hA.kp hKk).2.2 k ads[k] ns[k] (List.getElem?_eq_getElem hla) (List.getElem?_eq_getElem hlt)
      have Hst : Hid (_ = _) := pNums_take (some out) ns k ns[k] (List.getElem?_eq_getElem hlt)
      have Hdr := show Hid (_ = _) from pNums_drop (some out) ns (k + 1)
      generalize ads[k] = a at *
      generalize ns[k] = n at *
      go_wp2_with fail
      refine (number_any base b a n o _ (by omega) hPk p2).mono ?_
      rintro e w1 ⟨⟨o1, ho1, rfl, h1⟩ | ⟨ho1, rfl⟩, k1⟩
      · have hl1 := pNum_len ho1
        have Ho1 : Hid (pNums (some out) (ns.take (k + 1)) = some o1) := by show _ = _; rw [Hst.out, Ho.out]; exact ho1
        clear ho1 Hst
        go_wp2
        exact ⟨⟨k + 1, o1, by omega, by go_num, Ho1, by omega, h1, hKk.trans k1⟩, by simp [intOf]; omega⟩
      · have Hn : Hid (pNums (some out) ns = none) := by
          show _ = _
          rw [Hdr.out, Hst.out, Ho.out, ho1]; exact pNums_none _
        clear ho1 Hst Hdr
        go_wp2
        exact ⟨rfl, .inr ⟨Hn.out, rfl⟩, hKk.trans k1⟩
    · have hkk : k = ns.length := by omega
      have Hf : Hid (pNums (some out) ns = some o) := by
        have h := Ho.out
        rw [hkk, List.take_length] at h
        exact h
      have hge : ¬ (k : Int) < (ns.length : Int) := by omega
      clear hkk
      go_wp2
      go_end0
      exact ⟨.inl ⟨o, Hf.out, rfl, hPk⟩, hKk⟩

def flagB (x : Bool) : List UInt8 := [if x = true then 1 else 0]

set_option maxHeartbeats 800000 in
theorem flag_any (base b : Nat) (a : Addr) (x : Bool) (out : List UInt8) (w : World) (hL : out.length ≤ 1099511627776) (hP : PassAt w base b out) (ha : w.cell? a = some (.bool x)) :
    Calls Tryz.prog 86 #[.pointer (some ⟨b, 0, none⟩), .pointer (some a)] w fun e w' => e = .returned (.tuple #[]) ∧ PassAt w' base b (out ++ flagB x) ∧ Kp base b w w' := by
  obtain ⟨i0, hinf, hz0, hz1, hz2⟩ := info_parts infoByte
  obtain ⟨c0, _, _, _⟩ := hP.cells
  obtain ⟨v, kP, hown, hb⟩ := hP
  obtain ⟨av, cv, rfl⟩ := owns_form hown
  have hB0 : base ≤ w.heap.size := Nat.le_trans hb (Nat.le_of_lt kP.lt)
  have c1 := kP.cell 1
  have f1 := kP.frozen 1
  have hlt := kP.lt
  simp only [List.getElem?_toArray, List.getElem?_cons_succ, List.getElem?_cons_zero] at c1
  cases x
  · go_enter Tryz.func86, Tryz.ntmps86
    go_wp2_with (at_builtin; refine wpList_append_lies _ rfl _ _ _ rfl b 5 i0 (.int .u8 0) 1 1 Tryz.underlying63 hinf hz0 hz1 hz2 rfl (by omega) (.slice av out.length cv) out.length _ rfl (hown.alloc _) ⟨w.heap.size, 0, none⟩ 1 1 [.int .u8 0] rfl rfl ?c1 ?c2 (by omega) ?c3 ?c4 ?c5 (w.heap.size + 1) ?c6 ?_)
    case c1 => exact cell_one_new _ _ _
    case c2 => intro u hu; simp at hu; subst hu; rfl
    case c3 => unfold maxLen; omega
    case c4 => omega
    case c5 => simp; omega
    case c6 => simp
    intro g cg w2 hown2 hgrow hat hlt2
    have b1 : Below w.heap.size w (w.alloc (.cells #[.int .u8 0] 5)) := (Below.refl _ _).alloc (Nat.le_refl _) _
    obtain ⟨kP2, hP3, hK3⟩ := pass_stored (more := flagB false) (kP.below b1 kP.lt) (owns_below hown b1) hb hgrow hown2
    have hK := (Kp.of_below (base := base) (b := b) b1 hB0).trans hK3
    have d1 := kP2.cell 1
    have g1 := kP2.frozen 1
    have hlt3 := kP2.lt
    simp only [List.getElem?_toArray, List.getElem?_cons_succ, List.getElem?_cons_zero] at d1
    go_wp2
    go_end0
    exact ⟨rfl, hP3, hK⟩
  · go_enter Tryz.func86, Tryz.ntmps86
    go_wp2_with (at_builtin; refine wpList_append_lies _ rfl _ _ _ rfl b 5 i0 (.int .u8 0) 1 1 Tryz.underlying63 hinf hz0 hz1 hz2 rfl (by omega) (.slice av out.length cv) out.length _ rfl (hown.alloc _) ⟨w.heap.size, 0, none⟩ 1 1 [.int .u8 1] rfl rfl ?c1 ?c2 (by omega) ?c3 ?c4 ?c5 (w.heap.size + 1) ?c6 ?_)
    case c1 => exact cell_one_new _ _ _
    case c2 => intro u hu; simp at hu; subst hu; rfl
    case c3 => unfold maxLen; omega
    case c4 => omega
    case c5 => simp; omega
    case c6 => simp
    intro g cg w2 hown2 hgrow hat hlt2
    have b1 : Below w.heap.size w (w.alloc (.cells #[.int .u8 1] 5)) := (Below.refl _ _).alloc (Nat.le_refl _) _
    obtain ⟨kP2, hP3, hK3⟩ := pass_stored (more := flagB true) (kP.below b1 kP.lt) (owns_below hown b1) hb hgrow hown2
    have hK := (Kp.of_below (base := base) (b := b) b1 hB0).trans hK3
    have d1 := kP2.cell 1
    have g1 := kP2.frozen 1
    have hlt3 := kP2.lt
    simp only [List.getElem?_toArray, List.getElem?_cons_succ, List.getElem?_cons_zero] at d1
    go_wp2
    go_end0
    exact ⟨rfl, hP3, hK⟩

set_option maxHeartbeats 1600000 in
theorem digest_any (base b : Nat) (a : Addr) (d : Int) (out : List UInt8) (w : World) (hd : 0 ≤ d ∧ d ≤ 18446744073709551615) (hL : out.length ≤ 1099511627776) (hP : PassAt w base b out) (ha : w.cell? a = some (.int .u64 d)) :
    Calls Tryz.prog 87 #[.pointer (some ⟨b, 0, none⟩), .pointer (some a)] w fun e w' => e = .returned (.tuple #[]) ∧ PassAt w' base b (out ++ be d 8) ∧ Kp base b w w' := by
  obtain ⟨i0, hinf, hz0, hz1, hz2⟩ := info_parts infoByte
  obtain ⟨c0, _, _, _⟩ := hP.cells
  obtain ⟨v, kP, hown, hb⟩ := hP
  obtain ⟨av, cv, rfl⟩ := owns_form hown
  have hB0 : base ≤ w.heap.size := Nat.le_trans hb (Nat.le_of_lt kP.lt)
  have c1 := kP.cell 1
  have f1 := kP.frozen 1
  have hlt := kP.lt
  simp only [List.getElem?_toArray, List.getElem?_cons_succ, List.getElem?_cons_zero] at c1
  have hbk := be_len d 8
  have hszk : (⟨(be d 8).toArray⟩ : ByteArray).size = 8 := by simp [ByteArray.size, hbk]
  go_enter Tryz.func87, Tryz.ntmps87
  go_wp2_with fail
  go_region_law
    (first
    | (have hb34 := b34
       refine step_append_str _ (by rfl) _ _ _ _ (by rfl) b 5 i0 Tryz.underlying63 Tryz.underlying9 hinf hz0 hz1 hz2 (.slice av out.length cv) out.length (bcells out) (by rfl) (owns_below hown b34) ⟨(be d 8).toArray⟩ (by rfl) (by rw [hszk]; unfold maxLen; omega) (by rw [hszk]; omega) (Nat.le_of_lt lt4) ?_
       intro a5 c5 w5 hown5 hgrow5
       have hown5' : w5.ownsRow b 5 1 (.slice a5 (out.length + (⟨(be d 8).toArray⟩ : ByteArray).size) c5) (out.length + (be d 8).length) (bcells out ++ bcells (be d 8)) := by
         rw [← bcells_str]; exact hown5
       obtain ⟨kP5, hP6, hK6⟩ := pass_stored (more := be d 8) kP4 (owns_below hown b34) hb hgrow5 hown5'
       have c51 := kP5.cell 1
       have f51 := kP5.frozen 1
       have lt5 := kP5.lt
       simp only [List.getElem?_toArray, List.getElem?_cons_succ, List.getElem?_cons_zero] at c51)
    | (go_simp
       go_at_call 38
       refine (weight d _ hd).mono ?_
       rintro e w4 ⟨rfl, b4⟩
       have b34 : Below w.heap.size w w4 := ((Below.refl _ _).drew).trans b4
       have kP4 := kP.below b34 hlt
       have c41 := kP4.cell 1
       have f41 := kP4.frozen 1
       have lt4 := kP4.lt
       simp only [List.getElem?_toArray, List.getElem?_cons_succ, List.getElem?_cons_zero] at c41))
  all_goals
    rw [hszk] at hP6 hK6
    go_end0
    exact ⟨rfl, hP6, (Kp.of_below b34 hB0).trans hK6⟩
end Go.Proofs.YtaifkidpdmhciaaGreat

namespace Go.Proofs.YtaifkidpdmhciaaGreat
open Go.RowKit
set_option linter.unusedVariables false

inductive Atom where
  | num (most n : Int)
  | raw (l : List UInt8)

def Atom.ok : Atom → Bool
  | .num most n => decide (0 ≤ n) && decide (n ≤ most)
  | .raw _ => true
def Atom.enc : Atom → List UInt8
  | .num _ n => numB n
  | .raw l => l
def Atom.encZ : Atom → List UInt8
  | .num _ n => numZ n
  | .raw l => l
def Atom.fit : Atom → Prop
  | .num most _ => most ≤ 1099511627775
  | .raw _ => True
def Atom.wt : Atom → Nat
  | .num _ _ => 6
  | .raw l => l.length
def okL : List Atom → Bool
  | [] => true
  | a :: l => a.ok && okL l
def encL : List Atom → List UInt8
  | [] => []
  | a :: l => a.enc ++ encL l
def encZL : List Atom → List UInt8
  | [] => []
  | a :: l => a.encZ ++ encZL l
def wtL : List Atom → Nat
  | [] => 0
  | a :: l => a.wt + wtL l
def fitL : List Atom → Prop
  | [] => True
  | a :: l => a.fit ∧ fitL l
theorem okL_append (l m : List Atom) : okL (l ++ m) = (okL l && okL m) := by
  induction l with
  | nil => simp [okL]
  | cons a l ih => simp [okL, ih, Bool.and_assoc]
theorem encL_append (l m : List Atom) : encL (l ++ m) = encL l ++ encL m := by
  induction l with
  | nil => simp [encL]
  | cons a l ih => simp [encL, ih]
theorem encZL_append (l m : List Atom) : encZL (l ++ m) = encZL l ++ encZL m := by
  induction l with
  | nil => simp [encZL]
  | cons a l ih => simp [encZL, ih]
theorem wtL_append (l m : List Atom) : wtL (l ++ m) = wtL l + wtL m := by
  induction l with
  | nil => simp [wtL]
  | cons a l ih => simp [wtL, ih]; omega
theorem fitL_append (l m : List Atom) : fitL (l ++ m) ↔ fitL l ∧ fitL m := by
  induction l with
  | nil => simp [fitL]
  | cons a l ih => simp [fitL, ih, and_assoc]
theorem Atom.enc_len (a : Atom) : a.enc.length ≤ a.wt := by
  cases a with
  | num most n => exact numB_len n
  | raw l => exact Nat.le_refl _
theorem Atom.encZ_len (a : Atom) : a.encZ.length ≤ a.wt := by
  cases a with
  | num most n => exact numZ_len n
  | raw l => exact Nat.le_refl _
theorem encL_len (l : List Atom) : (encL l).length ≤ wtL l := by
  induction l with
  | nil => simp [encL, wtL]
  | cons a l ih => have := a.enc_len; simp [encL, wtL]; omega
theorem encZL_len (l : List Atom) : (encZL l).length ≤ wtL l := by
  induction l with
  | nil => simp [encZL, wtL]
  | cons a l ih => have := a.encZ_len; simp [encZL, wtL]; omega
theorem Atom.enc_eq (a : Atom) (h : a.fit) (ho : a.ok = true) : a.enc = a.encZ := by
  cases a with
  | num most n =>
    simp only [Atom.ok, Bool.and_eq_true, decide_eq_true_eq] at ho
    have hf : most ≤ 1099511627775 := h
    have hi : inNum n = true := by simp [inNum]; omega
    simp [Atom.enc, Atom.encZ, numZ, hi]
  | raw l => rfl
theorem encL_eq (l : List Atom) (h : fitL l) (ho : okL l = true) : encL l = encZL l := by
  induction l with
  | nil => rfl
  | cons a l ih =>
    simp only [okL, Bool.and_eq_true] at ho
    simp only [encL, encZL]
    rw [ih h.2 ho.2, a.enc_eq h.1 ho.1]

/-- A number's part is all right just where it is not too far. -/
theorem far_num (most n : Int) (hm : most ≤ 1099511627775) : (decide (most < n) || !inNum n) = !(Atom.num most n).ok := by
  simp only [inNum, Atom.ok]
  by_cases h0 : 0 ≤ n
  · by_cases h1 : n ≤ most
    · have h2 : n ≤ 1099511627775 := by omega
      have h3 : ¬ most < n := by omega
      simp [h0, h1, h2, h3]
    · have h3 : most < n := by omega
      simp [h0, h1, h3]
  · simp [h0]
theorem far_plain (n : Int) : (!inNum n) = !(Atom.num 1099511627775 n).ok := rfl

/-- How a walk of a pass ends: it has written all parts, or it has given up. -/
def Wr (base b : Nat) (out : List UInt8) (l : List Atom) (e : Ending) (w' : World) : Prop :=
  (okL l = true ∧ e = .returned (.tuple #[]) ∧ PassAt w' base b (out ++ encL l)) ∨ (okL l = false ∧ e = .panicked [{ v := .iface 133 (.int .i64 3), recovered := false }])

/-- The numbers' parts. -/
def nums (ns : List Int) : List Atom := ns.map (Atom.num 1099511627775)
theorem pNum_at (most : Int) (out : List UInt8) (n : Int) : pNum most (some out) n = if okL [Atom.num most n] = true then some (out ++ encL [Atom.num most n]) else none := by
  simp [pNum, okL, Atom.ok, encL, Atom.enc]
theorem pNums_at (out : List UInt8) (ns : List Int) : pNums (some out) ns = if okL (nums ns) = true then some (out ++ encL (nums ns)) else none := by
  induction ns generalizing out with
  | nil => simp [pNums, nums, okL, encL]
  | cons n r ih =>
    show pNums (pNum 1099511627775 (some out) n) r = _
    rw [pNum_at]
    simp only [nums, List.map_cons, okL, encL, Bool.and_true, List.append_nil]
    by_cases h : (Atom.num 1099511627775 n).ok = true
    · rw [if_pos h, ih]
      simp only [nums, h, Bool.true_and, List.append_assoc]
    · rw [if_neg h, pNums_none, if_neg (by simp [h])]
theorem Wrote.wr {base b : Nat} {o : Option (List UInt8)} {out : List UInt8} {l : List Atom} {e : Ending} {w' : World} (h : Wrote base b o e w') (ho : o = if okL l = true then some (out ++ encL l) else none) : Wr base b out l e w' := by
  rcases h with ⟨o1, h1, h2, h3⟩ | ⟨h1, h2⟩
  · by_cases hk : okL l = true
    · rw [h1, if_pos hk] at ho
      cases ho
      exact .inl ⟨hk, h2, h3⟩
    · rw [h1, if_neg hk] at ho
      cases ho
  · by_cases hk : okL l = true
    · rw [h1, if_pos hk] at ho
      cases ho
    · exact .inr ⟨by simpa using hk, h2⟩
theorem Wr.wrote {base b : Nat} {out : List UInt8} {l : List Atom} {e : Ending} {w' : World} (h : Wr base b out l e w') : Wrote base b (if okL l = true then some (out ++ encL l) else none) e w' := by
  rcases h with ⟨h1, h2, h3⟩ | ⟨h1, h2⟩
  · exact .inl ⟨_, by rw [if_pos h1], h2, h3⟩
  · exact .inr ⟨by rw [h1]; rfl, h2⟩
theorem pass_assoc {w : World} {base b : Nat} {out x y : List UInt8} (h : PassAt w base b (out ++ x ++ y)) : PassAt w base b (out ++ (x ++ y)) := by
  rw [← List.append_assoc]; exact h
end Go.Proofs.YtaifkidpdmhciaaGreat
