import Derived.Deep.RegionHeld3
import Derived.Test.YtackcbpabjhmpaaGreatXThings
namespace Go.Proofs.YtackcbpabjhmpaaGreat
open Go.RowKit
set_option linter.unusedVariables false
set_option linter.unusedSimpArgs false
/- One operation of a drawing region taken, by the usual means. -/
section
variable {P : Program} {md : Region.Mode} {ops : Array Oper} {Q : Exit → Act → World → Prop} {S : World → Prop}
theorem tk (i : Nat) {oi : Oper} {v : Value} {fuel : Nat} {listed : Array Bool} {a a' : Act} {w : World} (h : wpAnyH P md ops Q S fuel (listed.setIfInBounds i true) a' w)
    (hi : ops[i]? = some oi := by exact rfl) (hs : Region.noSelect ops = true := by kernel_rfl) (hf : Region.free md ops listed i = true := by kernel_rfl) (hr : (Region.ready md ops listed).contains i = true := by kernel_rfl)
    (hQ : ∀ c a w, Q (.panic c) (a.put oi.dst v) w → Q (.panic c) a w := by exact fun _ _ _ h => h) (hw : Region.wanted oi (yielded ops a.tmps) = true := by kernel_rfl)
    (hy : ∀ w, S w → (execOp a.eval oi).run P w = .ok (.value v) w := by intro w hSw; (repeat (have y := And.left hSw; replace hSw := And.right hSw)); go_simp; try (with_reducible rfl))
    (hS : S w := by assumption) (ha : a.put oi.dst v = a' := by simp only [Act.put, List.setIfInBounds_toArray, List.set_cons_zero, List.set_cons_succ, List.getElem_toArray, List.getElem_cons_zero, List.getElem_cons_succ]; try rfl) : wpAnyH P md ops Q S (fuel + 1) listed a w :=
  wpAnyH_take hi hs hf hr hQ (Or.inl ⟨hw, hy⟩) hS (ha ▸ h)
theorem tu (i : Nat) {oi : Oper} {fuel : Nat} {listed : Array Bool} {a a' : Act} {w : World} (h : wpAnyH P md ops Q S fuel (listed.setIfInBounds i true) a' w)
    (hi : ops[i]? = some oi := by exact rfl) (hs : Region.noSelect ops = true := by kernel_rfl) (hf : Region.free md ops listed i = true := by kernel_rfl) (hr : (Region.ready md ops listed).contains i = true := by kernel_rfl)
    (hQ : ∀ c a w, Q (.panic c) (a.put oi.dst undef) w → Q (.panic c) a w := by exact fun _ _ _ h => h) (hw : Region.wanted oi (yielded ops a.tmps) = false := by kernel_rfl)
    (hS : S w := by assumption) (ha : a.put oi.dst undef = a' := by simp only [Act.put, List.setIfInBounds_toArray, List.set_cons_zero, List.set_cons_succ, List.getElem_toArray, List.getElem_cons_zero, List.getElem_cons_succ]; try rfl) : wpAnyH P md ops Q S (fuel + 1) listed a w :=
  wpAnyH_take hi hs hf hr hQ (Or.inr ⟨hw, rfl⟩) hS (ha ▸ h)
end
def RefL (w : World) (b : Nat) (l : List Atom) (odd : Bool) : Prop := RefAt w b (encZL l) (!okL l) odd
theorem RefL.below {w w' : World} {b : Nat} {l : List Atom} {odd : Bool} (h : RefL w b l odd) (hb : Below w.heap.size w w') : RefL w' b l odd := RefAt.below h hb
theorem RefL.lt {w : World} {b : Nat} {l : List Atom} {odd : Bool} (h : RefL w b l odd) : b < w.heap.size := Blk.lt h
theorem RefL.as {w : World} {b : Nat} {l l' : List Atom} {odd odd' : Bool} (h : RefL w b l odd) (e : l = l') (o : odd = odd') : RefL w b l' odd' := by subst e; subst o; exact h
theorem encZL_one (l : List Atom) (a : Atom) : encZL (l ++ [a]) = encZL l ++ a.encZ := by rw [encZL_append]; simp [encZL]
theorem okL_one (l : List Atom) (a : Atom) : (!okL (l ++ [a])) = (!okL l || !a.ok) := by rw [okL_append]; simp [okL]
theorem rnumL (base b : Nat) (n : Int) (l : List Atom) (odd : Bool) (w : World) (hb : base ≤ b) (hn : -9223372036854775808 ≤ n ∧ n ≤ 9223372036854775807) (hL : wtL l ≤ 1099511000000) (R : RefL w b l odd) :
  Calls Tryz.prog 46 #[.pointer (some ⟨b, 0, none⟩), .int .i64 n] w fun e w' => e = .returned (.tuple #[]) ∧ RefL w' b (l ++ intA n) odd ∧ Kp base b w w' := by
 have hl := encZL_len l
 refine (rnum_any base b n (encZL l) (!okL l) odd w hb hn (by omega) R).mono ?_
 rintro e w' ⟨h1, h2, h3⟩
 refine ⟨h1, ?_, h3⟩
 unfold RefL
 rw [show intA n = [Atom.num 1099511627775 n] from rfl, encZL_one, okL_one, ← far_plain]
 exact h2
theorem rdigL (base b : Nat) (d : Int) (l : List Atom) (odd : Bool) (w : World) (hb : base ≤ b) (hd : 0 ≤ d ∧ d ≤ 18446744073709551615) (hL : wtL l ≤ 1099511000000) (R : RefL w b l odd) :
  Calls Tryz.prog 131 #[.pointer (some ⟨b, 0, none⟩), .int .u64 d] w fun e w' => e = .returned (.tuple #[]) ∧ RefL w' b (l ++ digL d) odd ∧ Kp base b w w' := by
 have hl := encZL_len l
 refine (rdig_any base b d (encZL l) (!okL l) odd w hb hd (by omega) R).mono ?_
 rintro e w' ⟨h1, h2, h3⟩
 refine ⟨h1, ?_, h3⟩
 unfold RefL
 rw [show digL d = [Atom.raw (be d 8)] from rfl, encZL_one, okL_one]
 simpa [Atom.ok, Atom.encZ] using h2
theorem rflagL (base b : Nat) (x : Bool) (l : List Atom) (odd : Bool) (w : World) (hb : base ≤ b) (hL : wtL l ≤ 1099511000000) (R : RefL w b l odd) :
  Calls Tryz.prog 130 #[.pointer (some ⟨b, 0, none⟩), .bool x] w fun e w' => e = .returned (.tuple #[]) ∧ RefL w' b (l ++ flagL x) odd ∧ Kp base b w w' := by
 have hl := encZL_len l
 refine (rflag_any base b x (encZL l) (!okL l) odd w hb (by omega) R).mono ?_
 rintro e w' ⟨h1, h2, h3⟩
 refine ⟨h1, ?_, h3⟩
 unfold RefL
 rw [show flagL x = [Atom.raw (flagB x)] from rfl, encZL_one, okL_one]
 simpa [Atom.ok, Atom.encZ, flagB] using h2
theorem roddL (base b : Nat) (x : Bool) (l : List Atom) (odd : Bool) (w : World) (hb : base ≤ b) (R : RefL w b l odd) :
  Calls Tryz.prog 132 #[.pointer (some ⟨b, 0, none⟩), .bool x] w fun e w' => e = .returned (.tuple #[]) ∧ RefL w' b l (odd || x) ∧ Kp base b w w' :=
 rodd_any base b x (encZL l) (!okL l) odd w hb R
theorem rcountL (base b : Nat) (n most : Int) (l : List Atom) (odd : Bool) (w : World) (hb : base ≤ b) (hn : -9223372036854775808 ≤ n ∧ n ≤ 9223372036854775807) (hm : most ≤ 1099511627775) (hL : wtL l ≤ 1099511000000) (R : RefL w b l odd) :
  Calls Tryz.prog 138 #[.pointer (some ⟨b, 0, none⟩), .int .i64 n, .int .i64 most] w fun e w' => e = .returned (.tuple #[]) ∧ RefL w' b (l ++ [Atom.num most n]) odd ∧ Kp base b w w' := by
 have hl := encZL_len l
 refine (rcount_any base b n most (encZL l) (!okL l) odd w hb hn (by omega) R).mono ?_
 rintro e w' ⟨h1, h2, h3⟩
 refine ⟨h1, ?_, h3⟩
 unfold RefL
 rw [encZL_one, okL_one, ← far_num most n hm, ← Bool.or_assoc]
 exact h2
set_option maxHeartbeats 800000 in
theorem rtextL (base b : Nat) (s : List UInt8) (most : Int) (l : List Atom) (odd : Bool) (w : World) (hb : base ≤ b) (hm : most ≤ 1099511627775) (hL : wtL l + s.length ≤ 1099511000000) (R : RefL w b l odd) :
  Calls Tryz.prog 158 #[.pointer (some ⟨b, 0, none⟩), .string ⟨s.toArray⟩, .int .i64 most] w fun e w' => e = .returned (.tuple #[]) ∧ RefL w' b (l ++ textL most s) odd ∧ Kp base b w w' := by
 have hsz : (⟨s.toArray⟩ : ByteArray).size = s.length := by simp [ByteArray.size]
 have hL1 : wtL l ≤ 1099511000000 := by omega
 have hs1 : s.length ≤ 1099511000000 := by omega
 go_enter Tryz.func158, Tryz.ntmps158
 go_wp2_with fail
 refine (rcountL base b (s.length : Int) most l odd _ hb (by omega) hm hL1 R).mono ?_
 rintro e w1 ⟨rfl, R1, k1⟩
 have hl := encZL_len (l ++ [Atom.num most (s.length : Int)])
 rw [wtL_append] at hl
 simp only [wtL, Atom.wt] at hl
 obtain ⟨c0, c1, c2, f0, f1, f2, hlt1⟩ := RefAt.cells R1
 have hR : RefAt w1 b (encZL (l ++ [Atom.num most (s.length : Int)])) (!okL (l ++ [Atom.num most (s.length : Int)])) odd := R1
 generalize hG : encZL (l ++ [Atom.num most (s.length : Int)]) = D at *
 have HG := show Hid (_ = _) from hG
 clear hG
 go_wp2
 (try go_region)
 rw [str_app]
 go_end0
 have hbw : base ≤ w1.heap.size := Nat.le_trans hb (Nat.le_of_lt hlt1)
 have key : ∀ w2, RefAt w2 b (D ++ s) (!okL (l ++ [Atom.num most (s.length : Int)])) odd → RefL w2 b (l ++ textL most s) odd := by
  intro w2 h
  unfold RefL
  rw [show l ++ textL most s = (l ++ [Atom.num most (s.length : Int)]) ++ [Atom.raw s] by simp [textL], encZL_one, okL_one, HG.out]
  simpa [Atom.ok, Atom.encZ] using h
 exact ⟨rfl, key _ (by first | exact hR.setB _ | exact (hR.setB _).below (Below.refl _ _).drew), by first | exact k1.trans (Kp.set hb 0 _) | exact (k1.trans (Kp.set hb 0 _)).trans (Kp.of_below (Below.refl _ _).drew (by simpa [World.setCell] using hbw))⟩
end Go.Proofs.YtackcbpabjhmpaaGreat
