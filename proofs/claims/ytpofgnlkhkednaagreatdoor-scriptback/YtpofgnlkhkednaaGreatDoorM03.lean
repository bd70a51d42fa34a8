import Derived.Test.YtpofgnlkhkednaaGreatDoorM02
import Derived.Deep.RegionHeld3
namespace Go.Proofs.YtpofgnlkhkednaaGreatDoor
open Go.RowKit
set_option linter.unusedVariables false
set_option linter.unusedSimpArgs false
set_option maxRecDepth 20000
set_option maxHeartbeats 8000000
def nameB (s : Key) : Bool := decide (s.length ≤ 16) && !wordL.contains s
def wordB (s : Key) : Bool := wordL.contains s
theorem isName_any (c : UInt8) (q : Key) (w : World) (hl : q.length < 2048) (hc : isL c = true) (hg : spanN goes (c :: q) = q.length + 1) : Calls Tryz.prog 22 #[.string (str (c :: q))] w fun e w' => e = .returned (.bool (nameB (c :: q))) ∧ Below w.heap.size w w' := by
 have sz := str_size (c :: q);simp only [List.length_cons] at sz;have h0 : (str (c :: q)).toList = c :: q := str_toList _;have hne : ((c :: q : Key) == []) = false := by simp
 have e0 : ∀ hgx, (str (c :: q))[0]'hgx = c := fun hgx => str_get (c :: q) 0 (by simp) hgx;have K1 := fun w' => letter_any c w';rw [hc] at K1;have K2 := fun w' => span_goes (c :: q) w' (by simp; omega);rw [hg] at K2;have K3 : ∀ w', Calls Tryz.prog 47 #[.string (str (c :: q))] w' fun e w2 => e = .returned (.bool (wordB (c :: q))) ∧ w' = w2 := fun w' => isWord_any (c :: q) w'
 by_cases h16 : q.length + 1 ≤ 16
 ·have h16' : (q.length : Int) + 1 ≤ 16 := by omega
  have HR : Hid (nameB (c :: q) = !wordB (c :: q)) := by
   have : (c :: q).length ≤ 16 := by simpa using h16
   show _ = _;unfold nameB wordB;rw [decide_eq_true this, Bool.true_and]
  go_enter Tryz.func22, Tryz.ntmps22
  go_wp2_with fail
  refine (K1 _).mono ?_;rintro e w1 ⟨rfl, rfl⟩
  go_wp2_with fail
  refine (K2 _).mono ?_;rintro e w1 ⟨rfl, b1⟩
  go_wp2_with fail
  refine (K3 _).mono ?_;rintro e w2 ⟨rfl, rfl⟩
  go_wp2
  go_ret
  exact ⟨by rw [HR.out]; rfl, b1⟩
 ·have h16' : ¬ (q.length : Int) + 1 ≤ 16 := by omega
  have HR : Hid (nameB (c :: q) = false) := by
   have : ¬ (c :: q).length ≤ 16 := by simpa using h16
   show _ = _;unfold nameB;rw [decide_eq_false this, Bool.false_and]
  go_enter Tryz.func22, Tryz.ntmps22
  go_wp2
  go_ret
  exact ⟨by rw [HR.out]; rfl, Below.refl _ _⟩
theorem ret_box {fn : Func} {i rb : Nat} {ty t : TypeId} {C : Array Value} {A : Act} {w : World} {R : Ending → World → Prop} (hres : fn.results = #[.cell i ty]) (hi : A.eval (.tmp i) = .pointer (some ⟨rb, 0, none⟩)) (hd : A.defers = [])
  (hrt : rowT Tryz.prog ty = true) (hsz : (Tryz.prog.info? ty).map (·.size) = some C.size) (k : Blk w rb C t) (h : R (.returned (.agg C)) w) : bodyPost Tryz.prog fn R .ret A w := by
 obtain ⟨d, hu, hr⟩ := rowT_out hrt;have hld := run_loadVar_mid (P := Tryz.prog) w rb 0 ty C.toList d k.range hu hr (by rw [hsz]; simp);rw [Array.toArray_toList] at hld;refine bodyPost_ret (v := .agg C) ?_ hd h
 have e3 : A.tmps[i]?.getD undef = .pointer (some ⟨rb, 0, none⟩) := by
  have := hi;unfold Act.eval at this;rw [← Array.getD_eq_getD_getElem?];exact this
 simp [results, hres, asAddr, e3, hld]
theorem ret_box2 {fn : Func} {i j rb : Nat} {ty t : TypeId} {C : Array Value} {v : Value} {A : Act} {w : World} {R : Ending → World → Prop} (hres : fn.results = #[.cell i ty, .tmp j]) (hi : A.eval (.tmp i) = .pointer (some ⟨rb, 0, none⟩)) (hj : A.eval (.tmp j) = v) (hd : A.defers = [])
  (hrt : rowT Tryz.prog ty = true) (hsz : (Tryz.prog.info? ty).map (·.size) = some C.size) (k : Blk w rb C t) (h : R (.returned (.tuple #[.agg C, v])) w) : bodyPost Tryz.prog fn R .ret A w := by
 obtain ⟨d, hu, hr⟩ := rowT_out hrt;have hld := run_loadVar_mid (P := Tryz.prog) w rb 0 ty C.toList d k.range hu hr (by rw [hsz]; simp);rw [Array.toArray_toList] at hld;refine bodyPost_ret (v := .tuple #[.agg C, v]) ?_ hd h
 have e2 : A.tmps[i]?.getD undef = .pointer (some ⟨rb, 0, none⟩) := by
  have := hi;unfold Act.eval at this;rw [← Array.getD_eq_getD_getElem?];exact this
 have e3 : A.tmps[j]?.getD undef = v := by
  have := hj;unfold Act.eval at this;rw [← Array.getD_eq_getD_getElem?];exact this
 simp [results, hres, asAddr, e2, e3, hld]
def Tok.val (t : Tok) : Value := .agg #[.int .i64 t.class, .string (str t.text), .int .i64 t.n]
theorem wordOf_any (c : UInt8) (q : Key) (w : World) (hl : q.length < 2048) (hc : isL c = true) (hg : spanN goes (c :: q) = q.length + 1) : Calls Tryz.prog 37 #[.string (str (c :: q))] w fun e w' => e = .returned (wordOf (c :: q)).val ∧ Below w.heap.size w w' := by
 have K1 : ∀ w', Calls Tryz.prog 47 #[.string (str (c :: q))] w' fun e w2 => e = .returned (.bool (wordB (c :: q))) ∧ w' = w2 := fun w' => isWord_any (c :: q) w';have K2 := fun w' => isName_any c q w' hl hc hg;have K3 : ∀ w', Calls Tryz.prog 53 #[.string (str (c :: q))] w' fun e w2 => e = .returned (.string (str (c :: q))) ∧ Below w'.heap.size w' w2 := fun w' => sclone_any (c :: q) w' (by simp; omega);have kA := Blk.new w #[.int .i64 0, .string ⟨#[]⟩, .int .i64 0] 36;have bA : Below w.heap.size w (w.alloc (.cells #[.int .i64 0, .string ⟨#[]⟩, .int .i64 0] 36)) := (Below.refl _ _).alloc (Nat.le_refl _) _
 go_enter Tryz.func37, Tryz.ntmps37
 go_wp2_with fail
 refine (K1 _).mono ?_;rintro e w1 ⟨rfl, rfl⟩
 cases hw : wordB (c :: q) with
 | true =>
  have HR : Hid (wordOf (c :: q) = .fixed (c :: q)) := by
   have : wordL.contains (c :: q) = true := hw;show _ = _;unfold wordOf; rw [if_pos this]
  go_wp2
  exact ret_box Tryz.results37 rfl rfl (by kernel_rfl) (by kernel_rfl) (Blk.new _ _ _) ⟨by rw [HR.out]; rfl, (Below.refl _ _).alloc (Nat.le_refl _) _⟩
 | false =>
  go_wp2_with fail
  refine (K2 _).mono ?_;rintro e w1 ⟨rfl, b1⟩;have k1 := kA.below b1 kA.lt;have b01 := bA.trans (b1.mono bA.size);have z1 := k1.lt;have hw' : ¬ wordL.contains (c :: q) = true := by rw [show wordL.contains (c :: q) = wordB (c :: q) from rfl, hw]; simp
  cases hn : nameB (c :: q) with
  | true =>
   have HR : Hid (wordOf (c :: q) = .name (c :: q)) := by
    have : (c :: q).length ≤ 16 := by
     unfold nameB at hn;rw [Bool.and_eq_true] at hn;exact of_decide_eq_true hn.1
    show _ = _;unfold wordOf; rw [if_neg hw', if_pos this]
   go_wp2_with fail
   refine (K3 _).mono ?_;rintro e w2 ⟨rfl, b2⟩;have k2 := k1.below b2 k1.lt;have z2 := k2.lt;have b02 := b01.trans (b2.mono b01.size);have c0 := (k2.cell 0).trans rfl;have c1 := (k2.cell 1).trans rfl;have c2 := (k2.cell 2).trans rfl;have f0 := k2.frozen 0;have f1 := k2.frozen 1;have f2 := k2.frozen 2;clear k1 z1
   go_wp2
   exact ret_box Tryz.results37 rfl rfl (by kernel_rfl) (by kernel_rfl) (((k2.set 0 _).set 1 _).set 2 _) ⟨by rw [HR.out]; rfl, ((b02.setCell (Nat.le_refl _) _).setCell (Nat.le_refl _) _).setCell (Nat.le_refl _) _⟩
  | false =>
   have HR : Hid (wordOf (c :: q) = .none) := by
    have : ¬ (c :: q).length ≤ 16 := by
     intro h;unfold nameB at hn;rw [decide_eq_true h, Bool.true_and] at hn;rw [show wordL.contains (c :: q) = wordB (c :: q) from rfl, hw] at hn;cases hn
    show _ = _;unfold wordOf; rw [if_neg hw', if_neg this]
   have c0 := (k1.cell 0).trans rfl;have c1 := (k1.cell 1).trans rfl;have c2 := (k1.cell 2).trans rfl;have f0 := k1.frozen 0;have f1 := k1.frozen 1;have f2 := k1.frozen 2
   go_wp2
   exact ret_box Tryz.results37 rfl rfl (by kernel_rfl) (by kernel_rfl) (((k1.set 0 _).set 1 _).set 2 _) ⟨by rw [HR.out]; rfl, ((b01.setCell (Nat.le_refl _) _).setCell (Nat.le_refl _) _).setCell (Nat.le_refl _) _⟩
theorem spanN_all {f : UInt8 → Bool} : ∀ {s : Key}, spanN f s = s.length → ∀ c ∈ s, f c = true
 | [], _, c, hc => by cases hc
 | d :: r, h, c, hc => by
  unfold spanN at h
  split at h
  ·rename_i hd
   have ih := spanN_all (f := f) (s := r) (by simpa using h);rcases List.mem_cons.1 hc with rfl | hc
   ·exact hd
   ·exact ih c hc
  ·simp at h
def v10 (n : Int) (s : Key) : Int := s.foldl (fun n c => 10 * n + ((c.toNat : Int) - 48)) n
theorem v10_ge : ∀ (s : Key) (n : Int), 0 ≤ n → (∀ c ∈ s, isD c = true) → n ≤ v10 n s
 | [], n, _, _ => Int.le_refl _
 | c :: r, n, h, hd => by
  have h1 := hd c (by simp);simp only [isD, Bool.and_eq_true, decide_eq_true_eq] at h1;have ih := v10_ge r (10 * n + ((c.toNat : Int) - 48)) (by omega) (fun d hd' => hd d (by simp [hd']));show n ≤ v10 (10 * n + ((c.toNat : Int) - 48)) r;omega
theorem v10_take (s : Key) (i : Nat) (hi : i < s.length) : v10 0 (s.take (i + 1)) = 10 * v10 0 (s.take i) + ((s[i].toNat : Int) - 48) := by
 rw [List.take_succ_eq_append_getElem hi];unfold v10;rw [List.foldl_append];rfl
theorem v10_more (s : Key) (i : Nat) (hd : ∀ c ∈ s, isD c = true) : v10 0 (s.take i) ≤ v10 0 s := by
 have h0 : 0 ≤ v10 0 (s.take i) := v10_ge _ 0 (Int.le_refl _) (fun c hc => hd c (List.mem_of_mem_take hc));have := v10_ge (s.drop i) (v10 0 (s.take i)) h0 (fun c hc => hd c (List.mem_of_mem_drop hc))
 have e : v10 (v10 0 (s.take i)) (s.drop i) = v10 0 s := by
  unfold v10;rw [← List.foldl_append, List.take_append_drop]
 omega
theorem Blk.three {w : World} {b : Nat} {x y z : Value} {t : TypeId} (k : Blk w b #[x, y, z] t) : b < w.heap.size ∧ w.cell? ⟨b, 0, none⟩ = some x ∧ w.cell? ⟨b, 1, none⟩ = some y ∧ w.cell? ⟨b, 2, none⟩ = some z ∧ w.frozen? ⟨b, 0, none⟩ = false ∧ w.frozen? ⟨b, 1, none⟩ = false ∧ w.frozen? ⟨b, 2, none⟩ = false :=
 ⟨k.lt, (k.cell 0).trans rfl, (k.cell 1).trans rfl, (k.cell 2).trans rfl, k.frozen 0, k.frozen 1, k.frozen 2⟩
theorem numberOf_any (c : UInt8) (q : Key) (w : World) (hl : q.length < 2048) (hg : spanN isD (c :: q) = q.length + 1) : Calls Tryz.prog 39 #[.string (str (c :: q))] w fun e w' => e = .returned (numberOf (c :: q)).val ∧ Below w.heap.size w w' := by
 have hd := spanN_all (f := isD) (s := c :: q) (by simpa using hg);obtain ⟨s, hs⟩ : ∃ s, s = c :: q := ⟨_, rfl⟩;have sz := str_size s;have hls : s.length ≤ 2048 := by rw [hs]; simp; omega
 have hl1 : 1 ≤ s.length := by rw [hs]; simp
 have e0 : ∀ hgx, (str s)[0]'hgx = c := fun hgx => (str_get s 0 (by omega) hgx).trans (by subst hs; rfl);rw [← hs] at hd hg;have kA := Blk.new w #[.int .i64 0, .string ⟨#[]⟩, .int .i64 0] 36;have bA : Below w.heap.size w (w.alloc (.cells #[.int .i64 0, .string ⟨#[]⟩, .int .i64 0] 36)) := (Below.refl _ _).alloc (Nat.le_refl _) _;rw [← hs]
 by_cases hz : 1 < s.length ∧ c.toNat = 48
 ·have h1 : (1 : Int) < (s.length : Int) := by omega
  have h2 : ((c.toNat : Int) == 48) = true := int_eq hz.2
  have HR : Hid (numberOf s = .none) := by
   show _ = _;unfold numberOf;rw [if_pos ⟨hz.1, by rw [hs]; simp; exact UInt8.toNat_inj.1 hz.2⟩]
  clear hs hd hg
  go_enter Tryz.func39, Tryz.ntmps39
  go_wp2
  exact ret_box Tryz.results39 rfl rfl (by kernel_rfl) (by kernel_rfl) (Blk.new _ _ _) ⟨by rw [HR.out]; rfl, (Below.refl _ _).alloc (Nat.le_refl _) _⟩
 ·have HZ : Hid (numberOf s = if 1099511627775 < v10 0 s then .none else .num (v10 0 s)) := by
   show _ = _;unfold numberOf;rw [if_neg]
   ·rfl
   ·intro h;refine hz ⟨h.1, ?_⟩;have := h.2;rw [hs] at this;simp at this;rw [this]; rfl
  have Hd := show Hid (_) from hd;clear hd hs hg
  have hcase : ((1 : Int) < (s.length : Int) ∧ ((c.toNat : Int) == 48) = false) ∨ ¬ (1 : Int) < (s.length : Int) := by
   by_cases h1 : 1 < s.length
   ·exact .inl ⟨by omega, int_ne fun q => hz ⟨h1, q⟩⟩
   ·exact .inr (by omega)
  clear hz;rcases hcase with ⟨h1, h2⟩ | h1
  all_goals
   go_enter Tryz.func39, Tryz.ntmps39
   go_wp2_with fail
   generalize w.alloc (.cells #[.int .i64 0, .string ⟨#[]⟩, .int .i64 0] 36) = W at *
   go_loopw [3, 16] (fun nv iv wv => ∃ i : Nat, i ≤ s.length ∧ iv = .int .i64 i ∧ nv = .int .i64 (v10 0 (s.take i)) ∧ v10 0 (s.take i) ≤ 1099511627775 ∧ Blk wv w.heap.size #[.int .i64 0, .string ⟨#[]⟩, .int .i64 0] 36 ∧ Below w.heap.size w wv) (fun _ iv _ => s.length - (intOf iv).toNat)
   case atStart => exact ⟨0, Nat.zero_le _, rfl, by simp [v10], by simp [v10], kA, bA⟩
   case round =>
    obtain ⟨i, hi, rfl, rfl, hle, kB, bB⟩ := hrel;obtain ⟨zA, c0, c1, c2, f0, f1, f2⟩ := kB.three;have h0 : 0 ≤ v10 0 (s.take i) := v10_ge _ 0 (Int.le_refl _) (fun c hc => Hd.out c (List.mem_of_mem_take hc))
    by_cases hlt : i < s.length
    ·have hlt' : (i : Int) < (s.length : Int) := by omega
     have e1 : ∀ hgx, (str s)[i]'hgx = s[i] := fun hgx => str_get s i hlt hgx;have hdi := Hd.out s[i] (List.getElem_mem hlt);simp only [isD, Bool.and_eq_true, decide_eq_true_eq] at hdi;have HT : Hid (v10 0 (s.take (i + 1)) = 10 * v10 0 (s.take i) + ((s[i].toNat : Int) - 48)) := v10_take s i hlt;have HM := v10_more s (i + 1) Hd.out;rw [HT.out] at HM;have hmod : ((s[i].toNat : Int) - 48) % 256 = (s[i].toNat : Int) - 48 := by omega
     generalize v10 0 (s.take i) = n at *
     by_cases hbig : 1099511627775 < 10 * n + ((s[i].toNat : Int) - 48)
     ·have HR : Hid (numberOf s = .none) := by
       show _ = _;rw [HZ.out, if_pos (by omega)]
      clear HZ HT HM
      go_wp2
      exact ret_box Tryz.results39 rfl rfl (by kernel_rfl) (by kernel_rfl) (((kB.set 0 _).set 1 _).set 2 _) ⟨by rw [HR.out]; rfl, ((bB.setCell (Nat.le_refl _) _).setCell (Nat.le_refl _) _).setCell (Nat.le_refl _) _⟩
     ·have hsm : 10 * n + ((s[i].toNat : Int) - 48) ≤ 1099511627775 := by omega
      clear HM
      go_wp2
      exact ⟨⟨i + 1, hlt, by go_num, by rw [HT.out]; rfl, by rw [HT.out]; exact hsm, by first | exact kB | exact kB.drew, by first | exact bB | exact bB.drew⟩, by simp [intOf]; omega⟩
    ·have hge : ¬ (i : Int) < (s.length : Int) := by omega
     have HI : Hid (s.take i = s) := by show _ = _; rw [show i = s.length by omega, List.take_length]
     rw [HI.out] at hle;rw [HI.out]
     have HR : Hid (numberOf s = .num (v10 0 s)) := by
      show _ = _;rw [HZ.out, if_neg (by omega)]
     clear HZ HI
     go_wp2
     exact ret_box Tryz.results39 rfl rfl (by kernel_rfl) (by kernel_rfl) (((kB.set 0 _).set 1 _).set 2 _) ⟨by rw [HR.out]; rfl, ((bB.setCell (Nat.le_refl _) _).setCell (Nat.le_refl _) _).setCell (Nat.le_refl _) _⟩
section
variable {P : Program} {md : Region.Mode} {ops : Array Oper} {Q : Exit → Act → World → Prop} {S : World → Prop}
theorem tk (i : Nat) {oi : Oper} {v : Value} {fuel : Nat} {listed : Array Bool} {a a' : Act} {w : World} (h : wpAnyH P md ops Q S fuel (listed.setIfInBounds i true) a' w)
  (hi : ops[i]? = some oi := by exact rfl) (hs : Region.noSelect ops = true := by kernel_rfl) (hf : Region.free md ops listed i = true := by kernel_rfl) (hr : (Region.ready md ops listed).contains i = true := by kernel_rfl)
  (hQ : ∀ c a w, Q (.panic c) (a.put oi.dst v) w → Q (.panic c) a w := by exact fun _ _ _ h => h) (hw : Region.wanted oi (yielded ops a.tmps) = true := by kernel_rfl)
  (hy : ∀ w, S w → (execOp a.eval oi).run P w = .ok (.value v) w := by intro w hSw; (repeat (have y := And.left hSw; replace hSw := And.right hSw)); go_simp; try (with_reducible rfl))
  (hS : S w := by assumption) (ha : a.put oi.dst v = a' := by simp only [Act.put, List.setIfInBounds_toArray, List.set_cons_zero, List.set_cons_succ, List.getElem_toArray, List.getElem_cons_zero, List.getElem_cons_succ]; try rfl) : wpAnyH P md ops Q S (fuel + 1) listed a w :=
 wpAnyH_take hi hs hf hr hQ (Or.inl ⟨hw, hy⟩) hS (ha ▸ h)
end
end Go.Proofs.YtpofgnlkhkednaaGreatDoor
