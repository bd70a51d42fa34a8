import Derived.Test.YtackcbpabjhmpaaGreatJN9
namespace Go.Proofs.YtackcbpabjhmpaaGreat
open Go.RowKit
set_option linter.unusedVariables false
set_option linter.unusedSimpArgs false
theorem pbench_reads : Reads 61 [.list 7 pairSc] := pbench_g.2
def hd1 (a : Array Value) : Value := a.toList.headD (.int .i64 0)
def anyI (_ : Int) : Bool := true
def benchF (l : Lst (Int × Int)) : List Fld := [l.fld pairF]
theorem int_vals (x : Int) : (#[.int .i64 x] : Array Value) = ((intF x).map Fld.val).toArray := rfl
theorem bench_vals (x : Lst (Int × Int)) : (#[.slice x.la x.xs.length x.lc] : Array Value) = ((benchF x).map Fld.val).toArray := by
 simp [benchF, Fld.val, Lst.fld]
theorem bench_of (e : List Fld) (h : fitsAll [.list 7 pairSc] e) : ∃ x : Lst (Int × Int), benchF x = e := by
 obtain ⟨f, gs, rfl, h3, h4⟩ := fits_cons h
 obtain ⟨la, lc, es, rfl, m⟩ := fits_list h3
 rw [fits_nil h4]
 rw [Sc.fits] at h3
 obtain ⟨xs, rfl⟩ := lst_of (flds := pairF) pair_of es h3.2
 exact ⟨⟨la, lc, xs⟩, rfl⟩
theorem bench_seats {x : Lst (Int × Int)} (h : fitsAll [.list 7 pairSc] (benchF x)) : x.xs.length ≤ 140737488351232 := by
 have := (lst_fits (flds := pairF) (els := pairSc) (m := 7) (l := x) (get_fits h 0 rfl rfl)).1
 omega
theorem anyInt_anyX (x : Int) (w : World) : Calls Tryz.prog 42 #[.int .i64 x] w fun e w' => e = .returned (.bool (anyI x)) ∧ Below w.heap.size w w' :=
 anyInt_any (.int .i64 0) x w
theorem mayBench_anyX (x : Lst (Int × Int)) (w : World) (g : goods w.heap.size w (benchF x)) (hn : x.xs.length ≤ 140737488351232) : Calls Tryz.prog 62 #[.slice x.la x.xs.length x.lc] w fun e w' => e = .returned (.bool (mayBenchP x.xs)) ∧ Below w.heap.size w w' :=
 mayBench_any x.la x.lc x.xs w hn (pairs_held (Lst.held pairF_len (g.get 0 rfl)))
set_option maxHeartbeats 800000 in
theorem attempt_getNumber (caps : Array Value) (w : World) (R : Int → World → Prop)
  (hdo : Calls Tryz.prog 120 caps (w.alloc (.cells #[.int .i64 0] 22)) fun e w1 => ((e = .returned (.tuple #[]) ∧ R 0 w1) ∨ (∃ er, e = .panicked [{ v := .iface 297 (.int .i64 er), recovered := false }] ∧ R er w1)) ∧ w1.cell? ⟨w.heap.size, 0, none⟩ = some (.int .i64 0) ∧ w1.frozen? ⟨w.heap.size, 0, none⟩ = false) :
  Calls Tryz.prog 117 #[.func (.func 120) #[] caps] w fun e w' => AttE R w e w' := by
 have hmf : ∀ (fn : Fn) (first cap : Array Value) (w : World), (Instr.makeFunc fn first cap).run Tryz.prog w = .ok (.func fn first cap) w := fun _ _ _ _ => rfl
 go_enter_defers Tryz.func117, Tryz.ntmps117
 go_wp2_with fail
 refine hdo.mono ?_
 rintro e w1 ⟨⟨rfl, hR⟩ | ⟨er, rfl, hR⟩, hc, hz⟩
 ·go_wp2
  refine leaves_cons (f := 214) (args := #[.pointer (some ⟨w.heap.size, 0, none⟩)]) (by simp) (by simp [go_sem]) ?_
  refine (catch_idle ⟨w.heap.size, 0, none⟩ _).mono ?_
  rintro e u' w'' ⟨rfl, rfl, rfl⟩
  have hs : (w1.setCell ⟨w.heap.size, 0, none⟩ (.int .i64 0)).cell? ⟨w.heap.size, 0, none⟩ = some (.int .i64 0) := World.cell?_setCell_same _ _ _ hc
  simp only [Leaves, settle]
  exact ⟨.int .i64 0, by simp [results, Tryz.results117, go_sem, hs], 0, w1, hR, rfl, rfl⟩
 ·go_wp2
  refine leaves_cons (f := 214) (args := #[.pointer (some ⟨w.heap.size, 0, none⟩)]) (by simp) (by simp [go_sem]) ?_
  refine (catch_panicking ⟨w.heap.size, 0, none⟩ 0 er [] _ hc hz).mono ?_
  rintro e u' w'' ⟨rfl, rfl, rfl⟩
  have hs : (w1.setCell ⟨w.heap.size, 0, none⟩ (.int .i64 er)).cell? ⟨w.heap.size, 0, none⟩ = some (.int .i64 er) := World.cell?_setCell_same _ _ _ hc
  simp only [settle, List.dropWhile_nil]
  simp only [Leaves]
  exact ⟨.int .i64 er, by simp [results, Tryz.results117, go_sem, hs], er, w1, hR, rfl, rfl⟩
set_option maxHeartbeats 800000 in
theorem get1_Number (fb pv b xb : Nat) (cs : Array Value) (t tf tp : TypeId) (s : List UInt8) (w : World) (kf : Blk w fb #[.func (.func 41) #[] #[]] tf) (kp : Blk w pv #[.pointer (some ⟨b, 0, none⟩)] tp) (h1 : pv ≠ b) (h2 : pv ≠ xb) (h : At b xb 0 cs t [numC] s w) :
  Calls Tryz.prog 120 #[.pointer (some ⟨fb, 0, none⟩), .pointer (some ⟨pv, 0, none⟩), .pointer (some ⟨xb, 0, none⟩)] w fun e w1 => Tried1 b xb cs t [numC] s w e w1 := by
 have f0 := (kf.cell 0).trans rfl
 have p0 := (kp.cell 0).trans rfl
 have zf := kf.lt
 have zp := kp.lt
 have K := number_reads b xb 0 cs t s w h
 clear h
 go_enter Tryz.func120, Tryz.ntmps120
 go_wp2_with fail
 refine K.mono ?_
 rintro e w1 ⟨B1, ⟨er, h3, rfl⟩ | ⟨fs, r, h3, rfl, k1, x1, l1⟩⟩
 ·have HF : Hid (Tried1 b xb cs t [numC] s w (refusedE er) w1) := tried_fail B1 h3
  clear h3 K
  unfold refusedE at *
  go_wp2
  exact ⟨rfl, HF.out⟩
 ·have kp1 := B1.blk kp (fun q => by rcases q with q | q; exact h1 q; exact h2 q)
  have HT : Hid (∀ e w2, EndE r w1 e w2 → Tried1 b xb cs t [numC] s w e w2) := fun e w2 hE => tried_end B1 h3 x1 l1 hE
  clear f0 p0 zf zp K h3 x1 l1
  have p0 := (kp1.cell 0).trans rfl
  have zp := kp1.lt
  go_wp2_with fail
  refine (end_all b r w1 k1).mono ?_
  intro e w2 hE
  have HF : Hid (Tried1 b xb cs t [numC] s w e w2) := HT.out e w2 hE
  rcases hE.1 with ⟨_, rfl⟩ | ⟨_, rfl⟩
  ·clear hE HT
   go_wp2
   go_end0
   exact HF.out
  ·clear hE HT
   unfold refusedE at *
   go_wp2
   exact ⟨rfl, HF.out⟩
set_option maxRecDepth 8000 in
set_option maxHeartbeats 3200000 in
theorem get_Number (s : List UInt8) (w : World) (hL : s.length ≤ 1000000) :
  Calls Tryz.prog 43 #[.string ⟨s.toArray⟩, .func (.func 41) #[] #[], .func (.func 42) #[] #[]] w fun e w' => GetsE hd1 [numC] intF (fun x : Int => anyI x) s #[.int .i64 0] w e w' := by
 have hmf : ∀ (fn : Fn) (first cap : Array Value) (w : World), (Instr.makeFunc fn first cap).run Tryz.prog w = .ok (.func fn first cap) w := fun _ _ _ _ => rfl
 obtain ⟨W, hW⟩ : ∃ W, ((((w.alloc (.cells #[.func (.func 41) #[] #[]] 74)).alloc (.cells #[.int .i64 0] 3)).alloc (.cells #[.bool true, .slice none 0 0, .string ⟨s.toArray⟩] 185)).alloc (.cells #[.pointer (some ⟨w.heap.size + 1 + 1, 0, none⟩)] 76)) = W := ⟨_, rfl⟩
 have bA : Below w.heap.size w W := by rw [← hW]; exact (((((Below.refl _ _).alloc (Nat.le_refl _) _).alloc (by simp) _).alloc (by simp; omega) _).alloc (by simp; omega) _)
 have hsz : W.heap.size = w.heap.size + 4 := by rw [← hW]; simp
 have kf : Blk W w.heap.size #[.func (.func 41) #[] #[]] 74 := by rw [← hW]; exact (((Blk.new w _ _).alloc _).alloc _).alloc _
 have kx : Blk W (w.heap.size + 1) #[.int .i64 0] 3 := by
  have q := ((Blk.new (w.alloc (.cells #[.func (.func 41) #[] #[]] 74)) #[.int .i64 0] 3).alloc (.cells #[.bool true, .slice none 0 0, .string ⟨s.toArray⟩] 185)).alloc (.cells #[.pointer (some ⟨w.heap.size + 1 + 1, 0, none⟩)] 76)
  rw [World.size_alloc, hW] at q
  exact q
 have kp : Blk W (w.heap.size + 1 + 1) #[.bool true, .slice none 0 0, .string ⟨s.toArray⟩] 185 := by
  have q := (Blk.new ((w.alloc (.cells #[.func (.func 41) #[] #[]] 74)).alloc (.cells #[.int .i64 0] 3)) #[.bool true, .slice none 0 0, .string ⟨s.toArray⟩] 185).alloc (.cells #[.pointer (some ⟨w.heap.size + 1 + 1, 0, none⟩)] 76)
  simp only [World.size_alloc] at q
  rw [hW] at q
  exact q
 have kv : Blk W (w.heap.size + 1 + 1 + 1) #[.pointer (some ⟨w.heap.size + 1 + 1, 0, none⟩)] 76 := by
  have q := Blk.new (((w.alloc (.cells #[.func (.func 41) #[] #[]] 74)).alloc (.cells #[.int .i64 0] 3)).alloc (.cells #[.bool true, .slice none 0 0, .string ⟨s.toArray⟩] 185)) #[.pointer (some ⟨w.heap.size + 1 + 1, 0, none⟩)] 76
  simp only [World.size_alloc] at q
  rw [hW] at q
  exact q
 go_enter Tryz.func43, Tryz.ntmps43
 go_upto_region 3 with fail
 try rw [hW]
 clear hW
 generalize hxb : w.heap.size + 1 = xb at *
 generalize hpb : xb + 1 = pb at *
 generalize hvb : pb + 1 = vb at *
 have bE : Below W.heap.size W (W.alloc (.cells #[.int .i64 0] 22)) := (Below.refl _ _).alloc (Nat.le_refl _) _
 have KA := attempt_getNumber #[.pointer (some ⟨w.heap.size, 0, none⟩), .pointer (some ⟨vb, 0, none⟩), .pointer (some ⟨xb, 0, none⟩)] W (fun er w1 => TriedE pb xb #[.int .i64 0] 3 [numC] s (W.alloc (.cells #[.int .i64 0] 22)) er w1) ((get1_Number w.heap.size vb pb xb #[.int .i64 0] 3 _ _ s _ (kf.below bE kf.lt) (kv.below bE kv.lt) (by omega) (by omega) ⟨kp.below bE kp.lt, kx.below bE kx.lt, by omega, (zero_at rfl), by omega⟩).mono fun e w1 hT => ⟨hT, ?_⟩)
 rotate_left
 ·have hB : But (fun k => k = pb ∨ k = xb) (W.alloc (.cells #[.int .i64 0] 22)) w1 := by
   rcases hT with ⟨_, q⟩ | ⟨er, _, q⟩
   ·exact q.1
   ·exact q.1
  have q := hB.blk (Blk.new W #[.int .i64 0] 22) (fun q => by rcases q with q | q <;> omega)
  exact ⟨(q.cell 0).trans rfl, q.frozen 0⟩
 go_wp2_with fail
 refine KA.mono ?_
 clear KA
 rintro e w2 ⟨er, w1, ⟨hB, hT⟩, rfl, rfl⟩
 have B2 : But (fun k => k = pb ∨ k = xb) W (w1.setCell ⟨W.heap.size, 0, none⟩ (.int .i64 er)) := by
  refine ((But.of_below bE).trans hB).trans_new (But.set (S := fun k => k = W.heap.size) w1 (p := ⟨W.heap.size, 0, none⟩) rfl _) (fun k hk q => by omega)
 have bW : Below w.heap.size w (w1.setCell ⟨W.heap.size, 0, none⟩ (.int .i64 er)) := bA.trans (B2.below bA.size (fun k q => by rcases q with q | q <;> omega))
 rcases hT with ⟨hr, hne⟩ | ⟨rfl, fs, hr, kx1, hl⟩
 ·have hbe : (er == 0) = false := by simpa using hne
  have hbn : (er != 0) = true := by simpa using hne
  have HR : Hid (readWhole [numC] s = .error er ∧ er ≠ 0) := ⟨hr, hne⟩
  clear hr hne kf kx kp kv B2 hB
  generalize w1.setCell ⟨W.heap.size, 0, none⟩ (.int .i64 er) = w2 at *
  go_wp2
  exact bodyPost_ret (v := .tuple #[.int .i64 0, .int .i64 er]) (by simp [results, Tryz.results43, go_sem]) rfl ⟨bW, .inl ⟨er, HR.out.1, HR.out.2, rfl⟩⟩
 ·obtain ⟨x, rfl⟩ := int_of fs (readWhole_fits hr)
  rw [putAt_all (by rw [List.length_map]; rfl), ← int_vals] at kx1
  have kx2 := kx1.setOther ⟨W.heap.size, 0, none⟩ (by show xb ≠ W.heap.size; omega) (.int .i64 0)
  have hl2 : lieAll W.heap.size (w1.setCell ⟨W.heap.size, 0, none⟩ (.int .i64 0)) (intF x) := (hl.hi (Hi.of_but (But.set (S := fun k => k = W.heap.size) w1 (p := ⟨W.heap.size, 0, none⟩) rfl _) (fun k q => by rw [World.size_alloc]; omega))).mono (by rw [World.size_alloc]; omega)
  have HR : Hid (readWhole [numC] s = .ok (pvAll (intF x))) := hr
  have HFI : Hid (fitsAll [numC] (intF x)) := readWhole_fits hr
  clear hr hl kx1 kf kx kp kv hB
  generalize w1.setCell ⟨W.heap.size, 0, none⟩ (.int .i64 0) = w2 at *
  have KM := anyInt_anyX x w2
  have HL : Hid (lieAll W.heap.size w2 (intF x)) := hl2
  clear hl2
  have zx := kx2.lt
  have x0 : w2.cell? ⟨xb, 0, none⟩ = some (.int .i64 x) := (kx2.cell 0).trans rfl
  go_wp2_with fail
  refine KM.mono ?_
  rintro e w3 ⟨rfl, b3⟩
  have bW3 := bW.trans (b3.mono bW.size)
  have HL3 : Hid (lieAll W.heap.size w3 (intF x)) := lieAll.hi HL.out (Hi.of_below b3)
  have kx3 := kx2.below b3 kx2.lt
  clear KM HL x0 zx
  have zx := kx3.lt
  cases hmy : anyI x with
  | false =>
   have HMY : Hid (anyI x = false) := hmy
   clear kx2 kx3 hmy
   go_wp2
   exact bodyPost_ret (v := .tuple #[.int .i64 0, .int .i64 2]) (by simp [results, Tryz.results43, go_sem]) rfl ⟨bW3, .inr ⟨x, HR.out, HFI.out, HL3.out.mono bA.size, .inl ⟨HMY.out, rfl⟩⟩⟩
  | true =>
   have HMY : Hid (anyI x = true) := hmy
   have x0 : w3.cell? ⟨xb, 0, none⟩ = some (.int .i64 x) := (kx3.cell 0).trans rfl
   clear kx2 kx3 hmy
   go_wp2
   exact bodyPost_ret (v := .tuple #[.int .i64 x, .int .i64 0]) (by simp [results, Tryz.results43, go_sem]) rfl ⟨bW3, .inr ⟨x, HR.out, HFI.out, HL3.out.mono bA.size, .inr ⟨HMY.out, congrArg (fun a => Ending.returned (.tuple #[hd1 a, .int .i64 0])) (int_vals x)⟩⟩⟩
set_option maxHeartbeats 800000 in
theorem attempt_getBench (caps : Array Value) (w : World) (R : Int → World → Prop)
  (hdo : Calls Tryz.prog 139 caps (w.alloc (.cells #[.int .i64 0] 22)) fun e w1 => ((e = .returned (.tuple #[]) ∧ R 0 w1) ∨ (∃ er, e = .panicked [{ v := .iface 297 (.int .i64 er), recovered := false }] ∧ R er w1)) ∧ w1.cell? ⟨w.heap.size, 0, none⟩ = some (.int .i64 0) ∧ w1.frozen? ⟨w.heap.size, 0, none⟩ = false) :
  Calls Tryz.prog 117 #[.func (.func 139) #[] caps] w fun e w' => AttE R w e w' := by
 have hmf : ∀ (fn : Fn) (first cap : Array Value) (w : World), (Instr.makeFunc fn first cap).run Tryz.prog w = .ok (.func fn first cap) w := fun _ _ _ _ => rfl
 go_enter_defers Tryz.func117, Tryz.ntmps117
 go_wp2_with fail
 refine hdo.mono ?_
 rintro e w1 ⟨⟨rfl, hR⟩ | ⟨er, rfl, hR⟩, hc, hz⟩
 ·go_wp2
  refine leaves_cons (f := 214) (args := #[.pointer (some ⟨w.heap.size, 0, none⟩)]) (by simp) (by simp [go_sem]) ?_
  refine (catch_idle ⟨w.heap.size, 0, none⟩ _).mono ?_
  rintro e u' w'' ⟨rfl, rfl, rfl⟩
  have hs : (w1.setCell ⟨w.heap.size, 0, none⟩ (.int .i64 0)).cell? ⟨w.heap.size, 0, none⟩ = some (.int .i64 0) := World.cell?_setCell_same _ _ _ hc
  simp only [Leaves, settle]
  exact ⟨.int .i64 0, by simp [results, Tryz.results117, go_sem, hs], 0, w1, hR, rfl, rfl⟩
 ·go_wp2
  refine leaves_cons (f := 214) (args := #[.pointer (some ⟨w.heap.size, 0, none⟩)]) (by simp) (by simp [go_sem]) ?_
  refine (catch_panicking ⟨w.heap.size, 0, none⟩ 0 er [] _ hc hz).mono ?_
  rintro e u' w'' ⟨rfl, rfl, rfl⟩
  have hs : (w1.setCell ⟨w.heap.size, 0, none⟩ (.int .i64 er)).cell? ⟨w.heap.size, 0, none⟩ = some (.int .i64 er) := World.cell?_setCell_same _ _ _ hc
  simp only [settle, List.dropWhile_nil]
  simp only [Leaves]
  exact ⟨.int .i64 er, by simp [results, Tryz.results117, go_sem, hs], er, w1, hR, rfl, rfl⟩
set_option maxHeartbeats 800000 in
theorem get1_Bench (fb pv b xb : Nat) (cs : Array Value) (t tf tp : TypeId) (s : List UInt8) (w : World) (kf : Blk w fb #[.func (.func 61) #[] #[]] tf) (kp : Blk w pv #[.pointer (some ⟨b, 0, none⟩)] tp) (h1 : pv ≠ b) (h2 : pv ≠ xb) (h : At b xb 0 cs t [.list 7 pairSc] s w) :
  Calls Tryz.prog 139 #[.pointer (some ⟨fb, 0, none⟩), .pointer (some ⟨pv, 0, none⟩), .pointer (some ⟨xb, 0, none⟩)] w fun e w1 => Tried1 b xb cs t [.list 7 pairSc] s w e w1 := by
 have f0 := (kf.cell 0).trans rfl
 have p0 := (kp.cell 0).trans rfl
 have zf := kf.lt
 have zp := kp.lt
 have K := pbench_reads b xb 0 cs t s w h
 clear h
 go_enter Tryz.func139, Tryz.ntmps139
 go_wp2_with fail
 refine K.mono ?_
 rintro e w1 ⟨B1, ⟨er, h3, rfl⟩ | ⟨fs, r, h3, rfl, k1, x1, l1⟩⟩
 ·have HF : Hid (Tried1 b xb cs t [.list 7 pairSc] s w (refusedE er) w1) := tried_fail B1 h3
  clear h3 K
  unfold refusedE at *
  go_wp2
  exact ⟨rfl, HF.out⟩
 ·have kp1 := B1.blk kp (fun q => by rcases q with q | q; exact h1 q; exact h2 q)
  have HT : Hid (∀ e w2, EndE r w1 e w2 → Tried1 b xb cs t [.list 7 pairSc] s w e w2) := fun e w2 hE => tried_end B1 h3 x1 l1 hE
  clear f0 p0 zf zp K h3 x1 l1
  have p0 := (kp1.cell 0).trans rfl
  have zp := kp1.lt
  go_wp2_with fail
  refine (end_all b r w1 k1).mono ?_
  intro e w2 hE
  have HF : Hid (Tried1 b xb cs t [.list 7 pairSc] s w e w2) := HT.out e w2 hE
  rcases hE.1 with ⟨_, rfl⟩ | ⟨_, rfl⟩
  ·clear hE HT
   go_wp2
   go_end0
   exact HF.out
  ·clear hE HT
   unfold refusedE at *
   go_wp2
   exact ⟨rfl, HF.out⟩
set_option maxRecDepth 8000 in
set_option maxHeartbeats 3200000 in
theorem get_Bench (s : List UInt8) (w : World) (hL : s.length ≤ 1000000) :
  Calls Tryz.prog 60 #[.string ⟨s.toArray⟩, .func (.func 61) #[] #[], .func (.func 62) #[] #[]] w fun e w' => GetsE hd1 [.list 7 pairSc] benchF (fun x : Lst (Int × Int) => mayBenchP x.xs) s #[.slice none 0 0] w e w' := by
 have hmf : ∀ (fn : Fn) (first cap : Array Value) (w : World), (Instr.makeFunc fn first cap).run Tryz.prog w = .ok (.func fn first cap) w := fun _ _ _ _ => rfl
 obtain ⟨W, hW⟩ : ∃ W, ((((w.alloc (.cells #[.func (.func 61) #[] #[]] 104)).alloc (.cells #[.slice none 0 0] 46)).alloc (.cells #[.bool true, .slice none 0 0, .string ⟨s.toArray⟩] 185)).alloc (.cells #[.pointer (some ⟨w.heap.size + 1 + 1, 0, none⟩)] 76)) = W := ⟨_, rfl⟩
 have bA : Below w.heap.size w W := by rw [← hW]; exact (((((Below.refl _ _).alloc (Nat.le_refl _) _).alloc (by simp) _).alloc (by simp; omega) _).alloc (by simp; omega) _)
 have hsz : W.heap.size = w.heap.size + 4 := by rw [← hW]; simp
 have kf : Blk W w.heap.size #[.func (.func 61) #[] #[]] 104 := by rw [← hW]; exact (((Blk.new w _ _).alloc _).alloc _).alloc _
 have kx : Blk W (w.heap.size + 1) #[.slice none 0 0] 46 := by
  have q := ((Blk.new (w.alloc (.cells #[.func (.func 61) #[] #[]] 104)) #[.slice none 0 0] 46).alloc (.cells #[.bool true, .slice none 0 0, .string ⟨s.toArray⟩] 185)).alloc (.cells #[.pointer (some ⟨w.heap.size + 1 + 1, 0, none⟩)] 76)
  rw [World.size_alloc, hW] at q
  exact q
 have kp : Blk W (w.heap.size + 1 + 1) #[.bool true, .slice none 0 0, .string ⟨s.toArray⟩] 185 := by
  have q := (Blk.new ((w.alloc (.cells #[.func (.func 61) #[] #[]] 104)).alloc (.cells #[.slice none 0 0] 46)) #[.bool true, .slice none 0 0, .string ⟨s.toArray⟩] 185).alloc (.cells #[.pointer (some ⟨w.heap.size + 1 + 1, 0, none⟩)] 76)
  simp only [World.size_alloc] at q
  rw [hW] at q
  exact q
 have kv : Blk W (w.heap.size + 1 + 1 + 1) #[.pointer (some ⟨w.heap.size + 1 + 1, 0, none⟩)] 76 := by
  have q := Blk.new (((w.alloc (.cells #[.func (.func 61) #[] #[]] 104)).alloc (.cells #[.slice none 0 0] 46)).alloc (.cells #[.bool true, .slice none 0 0, .string ⟨s.toArray⟩] 185)) #[.pointer (some ⟨w.heap.size + 1 + 1, 0, none⟩)] 76
  simp only [World.size_alloc] at q
  rw [hW] at q
  exact q
 go_enter Tryz.func60, Tryz.ntmps60
 go_upto_region 3 with fail
 try rw [hW]
 clear hW
 generalize hxb : w.heap.size + 1 = xb at *
 generalize hpb : xb + 1 = pb at *
 generalize hvb : pb + 1 = vb at *
 have bE : Below W.heap.size W (W.alloc (.cells #[.int .i64 0] 22)) := (Below.refl _ _).alloc (Nat.le_refl _) _
 have KA := attempt_getBench #[.pointer (some ⟨w.heap.size, 0, none⟩), .pointer (some ⟨vb, 0, none⟩), .pointer (some ⟨xb, 0, none⟩)] W (fun er w1 => TriedE pb xb #[.slice none 0 0] 46 [.list 7 pairSc] s (W.alloc (.cells #[.int .i64 0] 22)) er w1) ((get1_Bench w.heap.size vb pb xb #[.slice none 0 0] 46 _ _ s _ (kf.below bE kf.lt) (kv.below bE kv.lt) (by omega) (by omega) ⟨kp.below bE kp.lt, kx.below bE kx.lt, by omega, (zero_at rfl), by omega⟩).mono fun e w1 hT => ⟨hT, ?_⟩)
 rotate_left
 ·have hB : But (fun k => k = pb ∨ k = xb) (W.alloc (.cells #[.int .i64 0] 22)) w1 := by
   rcases hT with ⟨_, q⟩ | ⟨er, _, q⟩
   ·exact q.1
   ·exact q.1
  have q := hB.blk (Blk.new W #[.int .i64 0] 22) (fun q => by rcases q with q | q <;> omega)
  exact ⟨(q.cell 0).trans rfl, q.frozen 0⟩
 go_wp2_with fail
 refine KA.mono ?_
 clear KA
 rintro e w2 ⟨er, w1, ⟨hB, hT⟩, rfl, rfl⟩
 have B2 : But (fun k => k = pb ∨ k = xb) W (w1.setCell ⟨W.heap.size, 0, none⟩ (.int .i64 er)) := by
  refine ((But.of_below bE).trans hB).trans_new (But.set (S := fun k => k = W.heap.size) w1 (p := ⟨W.heap.size, 0, none⟩) rfl _) (fun k hk q => by omega)
 have bW : Below w.heap.size w (w1.setCell ⟨W.heap.size, 0, none⟩ (.int .i64 er)) := bA.trans (B2.below bA.size (fun k q => by rcases q with q | q <;> omega))
 rcases hT with ⟨hr, hne⟩ | ⟨rfl, fs, hr, kx1, hl⟩
 ·have hbe : (er == 0) = false := by simpa using hne
  have hbn : (er != 0) = true := by simpa using hne
  have HR : Hid (readWhole [.list 7 pairSc] s = .error er ∧ er ≠ 0) := ⟨hr, hne⟩
  clear hr hne kf kx kp kv B2 hB
  generalize w1.setCell ⟨W.heap.size, 0, none⟩ (.int .i64 er) = w2 at *
  go_wp2
  exact bodyPost_ret (v := .tuple #[.slice none 0 0, .int .i64 er]) (by simp [results, Tryz.results60, go_sem]) rfl ⟨bW, .inl ⟨er, HR.out.1, HR.out.2, rfl⟩⟩
 ·obtain ⟨x, rfl⟩ := bench_of fs (readWhole_fits hr)
  rw [putAt_all (by rw [List.length_map]; rfl), ← bench_vals] at kx1
  have kx2 := kx1.setOther ⟨W.heap.size, 0, none⟩ (by show xb ≠ W.heap.size; omega) (.int .i64 0)
  have hl2 : lieAll W.heap.size (w1.setCell ⟨W.heap.size, 0, none⟩ (.int .i64 0)) (benchF x) := (hl.hi (Hi.of_but (But.set (S := fun k => k = W.heap.size) w1 (p := ⟨W.heap.size, 0, none⟩) rfl _) (fun k q => by rw [World.size_alloc]; omega))).mono (by rw [World.size_alloc]; omega)
  have HR : Hid (readWhole [.list 7 pairSc] s = .ok (pvAll (benchF x))) := hr
  have HFI : Hid (fitsAll [.list 7 pairSc] (benchF x)) := readWhole_fits hr
  clear hr hl kx1 kf kx kp kv hB
  generalize w1.setCell ⟨W.heap.size, 0, none⟩ (.int .i64 0) = w2 at *
  have KM := mayBench_anyX x w2 hl2.goods (bench_seats HFI.out)
  have HL : Hid (lieAll W.heap.size w2 (benchF x)) := hl2
  clear hl2
  have zx := kx2.lt
  have x0 : w2.cell? ⟨xb, 0, none⟩ = some (.slice x.la x.xs.length x.lc) := (kx2.cell 0).trans rfl
  go_wp2_with fail
  refine KM.mono ?_
  rintro e w3 ⟨rfl, b3⟩
  have bW3 := bW.trans (b3.mono bW.size)
  have HL3 : Hid (lieAll W.heap.size w3 (benchF x)) := lieAll.hi HL.out (Hi.of_below b3)
  have kx3 := kx2.below b3 kx2.lt
  clear KM HL x0 zx
  have zx := kx3.lt
  cases hmy : mayBenchP x.xs with
  | false =>
   have HMY : Hid (mayBenchP x.xs = false) := hmy
   clear kx2 kx3 hmy
   go_wp2
   exact bodyPost_ret (v := .tuple #[.slice none 0 0, .int .i64 2]) (by simp [results, Tryz.results60, go_sem]) rfl ⟨bW3, .inr ⟨x, HR.out, HFI.out, HL3.out.mono bA.size, .inl ⟨HMY.out, rfl⟩⟩⟩
  | true =>
   have HMY : Hid (mayBenchP x.xs = true) := hmy
   have x0 : w3.cell? ⟨xb, 0, none⟩ = some (.slice x.la x.xs.length x.lc) := (kx3.cell 0).trans rfl
   clear kx2 kx3 hmy
   go_wp2
   exact bodyPost_ret (v := .tuple #[.slice x.la x.xs.length x.lc, .int .i64 0]) (by simp [results, Tryz.results60, go_sem]) rfl ⟨bW3, .inr ⟨x, HR.out, HFI.out, HL3.out.mono bA.size, .inr ⟨HMY.out, congrArg (fun a => Ending.returned (.tuple #[hd1 a, .int .i64 0])) (bench_vals x)⟩⟩⟩
end Go.Proofs.YtackcbpabjhmpaaGreat
