/- Views and sights as things; what Accept says of them: the program's and the answer's. -/
import Derived.Test.YtblnlfcfjbfhiaaGreatLRAcc
import Derived.Test.YtblnlfcfjbfhiaaGreatM41

namespace Go.Proofs.YtblnlfcfjbfhiaaGreat
open Go.RowKit
set_option linter.unusedVariables false
set_option linter.unusedSimpArgs false

structure Vw where
  c : Int
  wi : Int
  ep : Int
  h : Int
  st : Int
  a : Option Addr
  cap : Nat
  l : List (Int × Int)
structure Sg where
  hc : Int
  hh : Int
  hpa : Int
  htx : Int
  hgu : Int
  hst : Int
  hre : Int
  hbe : Int
  hpr : Int
  kh : Int
  kr : Int
  ks : Int
  khas : Bool
  kbl : Int
  fa : Option Addr
  fcap : Nat
  fr : List Int
  sa : Option Addr
  scap : Nat
  sl : List (Int × Int)

/-- Its cells. -/
abbrev Vw.arr (v : Vw) : Array Value := #[.int .i64 v.c, .int .i64 v.wi, .int .i64 v.ep, .int .i64 v.h, .int .u64 v.st, .slice v.a v.l.length v.cap]
abbrev Sg.harr (s : Sg) : Array Value := #[.int .i64 s.hc, .int .i64 s.hh, .int .u64 s.hpa, .int .u64 s.htx, .int .u64 s.hgu, .int .u64 s.hst, .int .u64 s.hre, .int .u64 s.hbe, .int .i64 s.hpr]
abbrev Sg.arr (s : Sg) : Array Value := #[.int .i64 s.hc, .int .i64 s.hh, .int .u64 s.hpa, .int .u64 s.htx, .int .u64 s.hgu, .int .u64 s.hst, .int .u64 s.hre, .int .u64 s.hbe, .int .i64 s.hpr, .int .i64 s.kh, .int .i64 s.kr, .int .i64 s.ks, .bool s.khas, .int .u64 s.kbl, .slice s.fa s.fr.length s.fcap, .slice s.sa s.sl.length s.scap]

/-- It is what may lie in memory. -/
structure Vw.Ok (w : World) (v : Vw) : Prop where
  ic : InN v.c
  iwi : InN v.wi
  iep : InN v.ep
  ih : InN v.h
  ist : InD v.st
  sl : SL w v.a v.l v.cap
  few : v.l.length ≤ 4096
  in_ : ∀ x ∈ v.l, InI x
theorem Vw.Ok.below {w w' : World} {v : Vw} (h : v.Ok w) (hb : Below w.heap.size w w') : v.Ok w' := ⟨h.ic, h.iwi, h.iep, h.ih, h.ist, h.sl.below hb, h.few, h.in_⟩
structure Sg.Ok (w : World) (s : Sg) : Prop where
  ihc : InN s.hc
  ihh : InN s.hh
  ihpa : InD s.hpa
  ihtx : InD s.htx
  ihgu : InD s.hgu
  ihst : InD s.hst
  ihre : InD s.hre
  ihbe : InD s.hbe
  ihpr : InN s.hpr
  ikh : InN s.kh
  ikr : InN s.kr
  iks : InN s.ks
  ikbl : InD s.kbl
  fi : IntsAt w s.fa s.fr
  fle : s.fr.length ≤ s.fcap
  fcm : s.fcap ≤ maxLen
  ffew : s.fr.length ≤ 4096
  fin : ∀ y ∈ s.fr, InN y
  sl_ : SL w s.sa s.sl s.scap
  few : s.sl.length ≤ 4096
  in_ : ∀ x ∈ s.sl, InI x
theorem Sg.Ok.below {w w' : World} {s : Sg} (h : s.Ok w) (hb : Below w.heap.size w w') : s.Ok w' := ⟨h.ihc, h.ihh, h.ihpa, h.ihtx, h.ihgu, h.ihst, h.ihre, h.ihbe, h.ihpr, h.ikh, h.ikr, h.iks, h.ikbl, h.fi.below hb, h.fle, h.fcm, h.ffew, h.fin, h.sl_.below hb, h.few, h.in_⟩

def Sg.hd (s : Sg) : W.Header := ⟨s.hc, s.hh, s.hpa, s.htx, s.hgu, s.hst, s.hre, s.hbe, s.hpr⟩
def Sg.ce (s : Sg) : W.Cert := certX s.kh s.kr s.ks s.khas s.kbl s.fa s.fcap s.fr
theorem encZL_len : ∀ l : List W.Atom, (W.encZL l).length ≤ W.wtL l
  | [] => by simp [W.encZL, W.wtL]
  | .num m n :: l => by
    have h1 := encZL_len l
    have h2 := W.numZ_len n
    simp only [W.encZL, W.wtL, W.Atom.encZ, W.Atom.wt, List.length_append]
    omega
  | .raw r :: l => by
    have h1 := encZL_len l
    simp only [W.encZL, W.wtL, W.Atom.encZ, W.Atom.wt, List.length_append]
    omega
theorem outB_len (B : List UInt8) (f o : Bool) : (W.outB B f o).length ≤ B.length := by
  unfold W.outB
  split
  · simp
  · split
    · simp
    · exact Nat.le_refl _
theorem hd_wt (s : Sg) : W.wtL s.hd.atoms ≤ 200 := by
  simp only [Sg.hd, W.Header.atoms, W.wtL_append, W.nums, W.digs, List.map_cons, List.map_nil, W.wtL, W.Atom.wt, W.intA, be_len]
  omega
theorem hd_goods {s : Sg} {w : World} (h : s.Ok w) (y : World) : W.goods y.heap.size y s.hd.flds := by
  intro f hf
  simp only [Sg.hd, W.Header.flds, List.mem_cons, List.not_mem_nil, or_false] at hf
  rcases hf with rfl | rfl | rfl | rfl | rfl | rfl | rfl | rfl | rfl
  · exact h.ihc
  · exact h.ihh
  · exact h.ihpa
  · exact h.ihtx
  · exact h.ihgu
  · exact h.ihst
  · exact h.ihre
  · exact h.ihbe
  · exact h.ihpr

/-- What PutHeader gives of a sight's header; PutCert, PutBench, PutView. -/
def Sg.hS (s : Sg) : ByteArray := ⟨(W.outB (W.encZL s.hd.atoms) (!W.okL s.hd.atoms) false).toArray⟩
def Sg.hE (s : Sg) : Int := W.outE (!W.okL s.hd.atoms) false
def Sg.cS (s : Sg) : ByteArray := ⟨(W.outB (W.encZL s.ce.atoms) (!W.okL s.ce.atoms) s.ce.odd).toArray⟩
def Sg.cE (s : Sg) : Int := W.outE (!W.okL s.ce.atoms) s.ce.odd
def bS (l : List (Int × Int)) : ByteArray := ⟨(W.outB (W.benchZ l) (W.benchFar l) (W.benchOdd l)).toArray⟩
def bE (l : List (Int × Int)) : Int := W.outE (W.benchFar l) (W.benchOdd l)
def Vw.vS (v : Vw) : ByteArray := ⟨(W.outB (W.viewZ v.c v.wi v.ep v.h v.st v.l) (W.viewFar v.c v.wi v.ep v.h v.l) (W.viewOdd v.wi v.ep v.l)).toArray⟩
def Vw.vE (v : Vw) : Int := W.outE (W.viewFar v.c v.wi v.ep v.h v.l) (W.viewOdd v.wi v.ep v.l)
theorem hS_len (s : Sg) : s.hS.size ≤ maxLen := by
  have h1 := outB_len (W.encZL s.hd.atoms) (!W.okL s.hd.atoms) false
  have h2 := encZL_len s.hd.atoms
  have h3 := hd_wt s
  show (W.outB (W.encZL s.hd.atoms) (!W.okL s.hd.atoms) false).toArray.size ≤ maxLen
  rw [List.size_toArray]
  unfold maxLen
  omega
theorem bS_len (l : List (Int × Int)) (h : l.length ≤ 4096) : (bS l).size ≤ maxLen := by
  have h1 := outB_len (W.benchZ l) (W.benchFar l) (W.benchOdd l)
  have h2 := W.pairsZ_len l
  have h3 := W.numZ_len (l.length : Int)
  show (W.outB (W.benchZ l) (W.benchFar l) (W.benchOdd l)).toArray.size ≤ maxLen
  rw [List.size_toArray]
  unfold W.benchZ at h1
  rw [List.length_append] at h1
  unfold maxLen
  unfold W.benchZ
  omega

theorem pairs_of {w : World} {la : Option Addr} {l : List (Int × Int)} (h : SeatsAt w la l) (hi : ∀ x ∈ l, InI x) : W.PairsAt w la l := ⟨hi, h⟩

/-- The name of a header; the digest of a bench. -/
noncomputable def Sg.nm (s : Sg) (wd : Int) : Int := ofP wd 6 [s.hS]
noncomputable def bdP (wd : Int) (l : List (Int × Int)) : Int := ofP wd 7 [bS l]

theorem Lname (wd : Int) (s : Sg) (w w0 : World) (hw : InN wd) (h : s.Ok w0) : Calls Tryz.prog 10 #[.int .i64 wd, .agg s.harr] w fun e w' => e = .returned (.int .u64 (s.nm wd)) ∧ Below w.heap.size w w' :=
  name_any wd _ w s.hS s.hE hw (hS_len s) _ _ _ _ _ _ _ _ _ rfl (fun y => W.wputHeader_anyX s.hd y (Nat.le_trans (hd_wt s) (by omega)) (hd_goods h y))
theorem Rname (wd : Int) (s : Sg) (w w0 : World) (hw : InN wd) (h : s.Ok w0) : Calls Tryz.prog 11 #[.int .i64 wd, .agg s.harr] w fun e w' => e = .returned (.int .u64 (s.nm wd)) ∧ Below w.heap.size w w' :=
  rname_any wd _ w s.hS s.hE hw (hS_len s) _ _ _ _ _ _ _ _ _ rfl (fun y => W.rputHeader_anyX s.hd y (Nat.le_trans (hd_wt s) (by omega)) (hd_goods h y))
theorem Lbd (wd : Int) (la : Option Addr) (cap : Nat) (l : List (Int × Int)) (w : World) (hw : InN wd) (h : SL w la l cap) (hf : l.length ≤ 4096) (hi : ∀ x ∈ l, InI x) : Calls Tryz.prog 51 #[.int .i64 wd, .slice la l.length cap] w fun e w' => e = .returned (.int .u64 (bdP wd l)) ∧ Below w.heap.size w w' :=
  bdig_any wd la l.length cap w (bS l) (bE l) hw (bS_len l hf) (W.wputBench_any la cap l w (by omega) h.le h.cm (pairs_of h.at_ hi))
theorem Rbd (wd : Int) (la : Option Addr) (cap : Nat) (l : List (Int × Int)) (w : World) (hw : InN wd) (h : SL w la l cap) (hf : l.length ≤ 4096) (hi : ∀ x ∈ l, InI x) : Calls Tryz.prog 16 #[.int .i64 wd, .slice la l.length cap] w fun e w' => e = .returned (.int .u64 (bdP wd l)) ∧ Below w.heap.size w w' :=
  rbdig_any wd la l.length cap w (bS l) (bE l) hw (bS_len l hf) (W.rputBench_any la cap l w (by omega) h.le h.cm (pairs_of h.at_ hi))

/-- What Accept says. -/
noncomputable def accF (v : Vw) (s : Sg) : Int := formP v.vE s.hE s.cE (bE s.sl) (fitB v.l) (fitB s.sl)
noncomputable def accD (v : Vw) (s : Sg) : Int := decP s.kh s.ks s.khas s.kbl s.hh (s.nm v.wi) (chkP s.cE 17 18 v.l s.fr) (bdP v.wi s.sl) s.hbe
noncomputable def accE (v : Vw) (s : Sg) : Int := accP (accF v s) (folP v.c v.ep v.h s.hc s.hh) (accD v s)

theorem form_zero {a b c d : Int} {x y : Bool} (h : formP a b c d x y = 0) : a = 0 ∧ b = 0 ∧ c = 0 ∧ d = 0 ∧ x = true ∧ y = true := by
  unfold formP at h
  split at h
  · omega
  · rename_i h1
    split at h
    · omega
    · split at h
      · omega
      · split at h
        · omega
        · split at h
          · omega
          · rename_i h2 h3 h4 h5
            refine ⟨Classical.not_not.1 fun q => h1 (.inl q), by omega, by omega, by omega, ?_, by simpa using h5⟩
            cases x
            · exact absurd (.inr rfl) h1
            · rfl
theorem outE_zero {f o : Bool} (h : W.outE f o = 0) : f = false ∧ o = false := by
  unfold W.outE at h
  cases f <;> cases o <;> simp at h ⊢
theorem inNum_iff {n : Int} (h : W.inNum n = true) : 0 ≤ n ∧ n ≤ 1099511627775 := by
  unfold W.inNum at h
  simpa using h
theorem accF_bounds {v : Vw} {s : Sg} (h : accF v s = 0) : (1 ≤ v.ep ∧ v.ep ≤ 1099511627775) ∧ (0 ≤ v.h ∧ v.h ≤ 1099511627775) ∧ (0 ≤ s.hh ∧ s.hh ≤ 1099511627775) ∧ GoodB v.l := by
  obtain ⟨h1, h2, h3, h4, h5, h6⟩ := form_zero h
  obtain ⟨f1, o1⟩ := outE_zero h1
  obtain ⟨f2, o2⟩ := outE_zero h2
  simp only [W.viewFar, Bool.or_eq_false_iff, Bool.not_eq_false'] at f1
  simp only [W.viewOdd, Bool.or_eq_false_iff, decide_eq_false_iff_not] at o1
  have k1 := inNum_iff f1.1.2
  have k2 := inNum_iff f1.1.1.2
  simp only [Bool.not_eq_false', Sg.hd, W.Header.atoms, W.okL_append, W.nums, List.map_cons, W.okL, W.Atom.ok, Bool.and_eq_true, decide_eq_true_eq] at f2
  refine ⟨⟨by omega, k2.2⟩, k1, ?_, (fitB_iff _).1 h5⟩
  omega

theorem Lacc (v : Vw) (s : Sg) (w : World) (hv : v.Ok w) (hs : s.Ok w) :
    Calls Tryz.prog 12 #[.agg v.arr, .agg s.arr] w fun e w' => Accepted v.c v.wi v.ep s.hh s.hst s.sl (accE v s) w e w' := by
  refine accept_any v.c v.wi v.ep v.h v.st v.a v.cap v.l s.hc s.hh s.hpa s.htx s.hgu s.hst s.hre s.hbe s.hpr s.kh s.kr s.ks s.khas s.kbl s.fa s.sa s.fcap s.scap s.fr s.sl w (accF v s) (folP v.c v.ep v.h s.hc s.hh) (accD v s) ?_ ?_ ?_ hs.few hs.sl_
  · intro y hy
    have hv' := hv.below hy
    have hs' := hs.below hy
    exact formed_any v.c v.wi v.ep v.h v.st v.a v.cap v.l s.hc s.hh s.hpa s.htx s.hgu s.hst s.hre s.hbe s.hpr s.kh s.kr s.ks s.khas s.kbl s.fa s.sa s.fr.length s.fcap s.scap s.sl y v.vS s.hS s.cS (bS s.sl) v.vE s.hE s.cE (bE s.sl) hv.few hs.few hv'.sl.at_ hs'.sl_.at_
      (fun z hz => W.wputView_any v.c v.wi v.ep v.h v.st v.a v.cap v.l z hv.ic hv.iwi hv.iep hv.ih hv.ist (by have := hv.few; omega) hv.sl.le hv.sl.cm (pairs_of (hv'.sl.below hz).at_ hv.in_))
      (fun z => W.wputHeader_anyX s.hd z (Nat.le_trans (hd_wt s) (by omega)) (hd_goods hs z))
      (fun z hz => W.wputCert_anyX s.ce z (cert_wt _ _ _ _ _ _ _ _ hs.ffew) (cert_goods hs.ikh hs.ikr hs.iks hs.ikbl hs.fle hs.fcm hs.fin (hs'.below hz).fi))
      (fun z hz => W.wputBench_any s.sa s.scap s.sl z (by have := hs.few; omega) hs.sl_.le hs.sl_.cm (pairs_of (hs'.below hz).sl_.at_ hs.in_))
  · intro h1 y hy
    obtain ⟨k1, k2, k3, _⟩ := accF_bounds h1
    exact follows_any v.c v.wi v.ep v.h v.st v.a v.l.length v.cap s.hc s.hh s.hpa s.htx s.hgu s.hst s.hre s.hbe s.hpr s.kh s.kr s.ks s.khas s.kbl s.fa s.sa s.fr.length s.fcap s.sl.length s.scap y k1 k2 k3
  · intro h1 h2 y hy
    obtain ⟨k1, k2, k3, k4⟩ := accF_bounds h1
    have hv' := hv.below hy
    have hs' := hs.below hy
    exact decided_any v.c v.wi v.ep v.h v.st v.a v.cap v.l s.hc s.hh s.hpa s.htx s.hgu s.hst s.hre s.hbe s.hpr s.kh s.kr s.ks s.khas s.kbl s.fa s.sa s.fcap s.scap s.fr s.sl y (s.nm v.wi) (chkP s.cE 17 18 v.l s.fr) (bdP v.wi s.sl)
      (fun z hz => Lname v.wi s z w hv.iwi hs)
      (fun z hz => check_any v.a s.fa v.cap s.fcap v.l s.fr s.kh s.kr s.ks s.khas s.kbl z s.cS s.cE (by have := k4.few; omega) k4.w (hv'.sl.below hz).at_ hs.ffew (hs'.below hz).fi (fun u hu => W.wputCert_anyX s.ce u (cert_wt _ _ _ _ _ _ _ _ hs.ffew) (cert_goods hs.ikh hs.ikr hs.iks hs.ikbl hs.fle hs.fcm hs.fin ((hs'.below hz).below hu).fi)))
      (fun z hz => Lbd v.wi s.sa s.scap s.sl z hv.iwi (hs'.below hz).sl_ hs.few hs.in_)

theorem fol_parts {vc vep vh hc hh : Int} (h : folP vc vep vh hc hh = 0) : hc = vc ∧ ¬ hh ≤ vh ∧ epochP hh vep = epochP (vh + 1) vep := by
  unfold folP at h
  split at h
  · omega
  · split at h
    · omega
    · split at h
      · omega
      · rename_i h1 h2 h3
        exact ⟨Classical.not_not.1 h1, h2, Classical.not_not.1 h3⟩
theorem dec_parts {kh ks : Int} {khas : Bool} {kbl hh nm ce bd hbe : Int} (h : decP kh ks khas kbl hh nm ce bd hbe = 0) : kh = hh ∧ ks = 2 ∧ khas = true ∧ kbl = nm ∧ ce = 0 ∧ bd = hbe := by
  unfold decP at h
  split at h
  · omega
  · split at h
    · omega
    · split at h
      · omega
      · split at h
        · omega
        · split at h
          · omega
          · split at h
            · omega
            · rename_i h1 h2 h3 h4 h5 h6
              exact ⟨Classical.not_not.1 h1, Classical.not_not.1 h2, by simpa using h3, Classical.not_not.1 h4, Classical.not_not.1 h5, Classical.not_not.1 h6⟩

set_option maxHeartbeats 800000 in
theorem Racc (v : Vw) (s : Sg) (w : World) (hv : v.Ok w) (hs : s.Ok w) :
    Calls Tryz.prog 13 #[.agg v.arr, .agg s.arr] w fun e w' => Accepted v.c v.wi v.ep s.hh s.hst s.sl (accE v s) w e w' := by
  have KV := fun (z : World) (hz : Below w.heap.size w z) => W.rputView_any v.c v.wi v.ep v.h v.st v.a v.cap v.l z hv.ic hv.iwi hv.iep hv.ih hv.ist (by have := hv.few; omega) hv.sl.le hv.sl.cm (pairs_of (hv.sl.below hz).at_ hv.in_)
  have KF := fun (z : World) (hz : Below w.heap.size w z) => rfits_any v.a v.cap v.l z (by have := hv.few; unfold maxLen; omega) (hv.sl.below hz).at_
  have KH := fun (z : World) (hz : Below w.heap.size w z) => W.rputHeader_anyX s.hd z (Nat.le_trans (hd_wt s) (by omega)) (hd_goods hs z)
  have KC := fun (z : World) (hz : Below w.heap.size w z) => W.rputCert_anyX s.ce z (cert_wt _ _ _ _ _ _ _ _ hs.ffew) (cert_goods hs.ikh hs.ikr hs.iks hs.ikbl hs.fle hs.fcm hs.fin (hs.below hz).fi)
  have KB := fun (z : World) (hz : Below w.heap.size w z) => W.rputBench_any s.sa s.scap s.sl z (by have := hs.few; omega) hs.sl_.le hs.sl_.cm (pairs_of (hs.below hz).sl_.at_ hs.in_)
  have KG := fun (z : World) (hz : Below w.heap.size w z) => rfits_any s.sa s.scap s.sl z (by have := hs.few; unfold maxLen; omega) (hs.below hz).sl_.at_
  by_cases h1 : accF v s = 0
  rotate_left
  · have e1 : accE v s = accF v s := by unfold accE accP; rw [if_pos h1]
    rw [e1]
    exact racc_form v.c v.wi v.ep v.h v.st v.a v.cap v.l s.hc s.hh s.hpa s.htx s.hgu s.hst s.hre s.hbe s.hpr s.kh s.kr s.ks s.khas s.kbl s.fa s.sa s.fcap s.scap s.fr s.sl w v.vS s.hS s.cS (bS s.sl) v.vE s.hE s.cE (bE s.sl) (fitB v.l) (fitB s.sl) KV KF KH KC KB KG h1
  obtain ⟨k1, k2, k3, k4⟩ := accF_bounds h1
  obtain ⟨z1, z2, z3, z4, z5, z6⟩ := form_zero h1
  have KV : ∀ z : World, Below w.heap.size w z → Calls Tryz.prog 27 #[.agg v.arr] z fun e w' => e = .returned (.tuple #[.string v.vS, .int .i64 0]) ∧ Below z.heap.size z w' := fun z hz => (KV z hz).mono fun e w' ⟨q1, q2⟩ => ⟨by rw [q1]; exact congrArg (fun n => Ending.returned (.tuple #[.string v.vS, .int .i64 n])) z1, q2⟩
  have KH : ∀ z : World, Below w.heap.size w z → Calls Tryz.prog 22 #[.agg s.harr] z fun e w' => e = .returned (.tuple #[.string s.hS, .int .i64 0]) ∧ Below z.heap.size z w' := fun z hz => (KH z hz).mono fun e w' ⟨q1, q2⟩ => ⟨by rw [q1]; exact congrArg (fun n => Ending.returned (.tuple #[.string s.hS, .int .i64 n])) z2, q2⟩
  have KC0 := KC
  have KC : ∀ z : World, Below w.heap.size w z → Calls Tryz.prog 29 #[.agg #[.int .i64 s.kh, .int .i64 s.kr, .int .i64 s.ks, .bool s.khas, .int .u64 s.kbl, .slice s.fa s.fr.length s.fcap]] z fun e w' => e = .returned (.tuple #[.string s.cS, .int .i64 0]) ∧ Below z.heap.size z w' := fun z hz => (KC z hz).mono fun e w' ⟨q1, q2⟩ => ⟨by rw [q1]; exact congrArg (fun n => Ending.returned (.tuple #[.string s.cS, .int .i64 n])) z3, q2⟩
  have KB : ∀ z : World, Below w.heap.size w z → Calls Tryz.prog 30 #[.slice s.sa s.sl.length s.scap] z fun e w' => e = .returned (.tuple #[.string (bS s.sl), .int .i64 0]) ∧ Below z.heap.size z w' := fun z hz => (KB z hz).mono fun e w' ⟨q1, q2⟩ => ⟨by rw [q1]; exact congrArg (fun n => Ending.returned (.tuple #[.string (bS s.sl), .int .i64 n])) z4, q2⟩
  rw [z5] at KF
  rw [z6] at KG
  by_cases h2 : folP v.c v.ep v.h s.hc s.hh = 0
  rotate_left
  · have e1 : accE v s = folP v.c v.ep v.h s.hc s.hh := by unfold accE accP; rw [if_neg (by simpa using h1), if_pos h2]
    rw [e1]
    exact racc_fol v.c v.wi v.ep v.h v.st v.a v.cap v.l s.hc s.hh s.hpa s.htx s.hgu s.hst s.hre s.hbe s.hpr s.kh s.kr s.ks s.khas s.kbl s.fa s.sa s.fcap s.scap s.fr s.sl w v.vS s.hS s.cS (bS s.sl) k1 k2 k3 KV KF KH KC KB KG h2
  obtain ⟨p1, p2, p3⟩ := fol_parts h2
  have KN := fun (z : World) (hz : Below w.heap.size w z) => Rname v.wi s z w hv.iwi hs
  have KK := fun (z : World) (hz : Below w.heap.size w z) => rcheck_any v.a s.fa v.cap s.fcap v.l s.fr s.kh s.kr s.ks s.khas s.kbl z s.cS s.cE (by have := k4.few; omega) k4.w (hv.sl.below hz).at_ hs.ffew (hs.below hz).fi (fun u hu => KC0 u (hz.trans (hu.mono hz.size)))
  have KD := fun (z : World) (hz : Below w.heap.size w z) => Rbd v.wi s.sa s.scap s.sl z hv.iwi (hs.below hz).sl_ hs.few hs.in_
  have e1 : accE v s = accD v s := by unfold accE accP; rw [if_neg (by simpa using h1), if_neg (by simpa using h2)]
  by_cases h3 : accD v s = 0
  rotate_left
  · rw [e1]
    exact racc_dec v.c v.wi v.ep v.h v.st v.a v.cap v.l s.hc s.hh s.hpa s.htx s.hgu s.hst s.hre s.hbe s.hpr s.kh s.kr s.ks s.khas s.kbl s.fa s.sa s.fcap s.scap s.fr s.sl w v.vS s.hS s.cS (bS s.sl) (s.nm v.wi) (chkP s.cE 17 18 v.l s.fr) (bdP v.wi s.sl) k1 k2 k3 p1 p2 p3 KV KF KH KC KB KG KN KK KD h3
  · rw [e1, h3]
    obtain ⟨t1, t2, t3, t4, t5, t6⟩ := dec_parts h3
    have hf := hs.few
    have hsl := hs.sl_
    clear hv hs KC0
    rw [t5] at KK
    rw [t6] at KD
    generalize hNM : s.nm v.wi = NM at *
    clear hNM h1 h2 h3 e1 z1 z2 z3 z4 z5 z6 t5 t6
    obtain ⟨hc, hh, hpa, htx, hgu, hst, hre, hbe, hpr, kh, kr, ks, khas, kbl, fa, fcap, fr, sa, scap, sl⟩ := s
    simp only [Vw.arr, Sg.arr, Sg.harr] at *
    subst p1 t1 t2 t3 t4
    exact racc_ok v.c v.wi v.ep v.h v.st v.a v.cap v.l v.c kh hpa htx hgu hst hre hbe hpr kh kr 2 true kbl fa sa fcap scap fr sl w v.vS _ _ (bS sl) kbl k1 k2 k3 p2 p3 hf hsl KV KF KH KC KB KG KN KK KD
end Go.Proofs.YtblnlfcfjbfhiaaGreat

namespace Go.Proofs.YtblnlfcfjbfhiaaGreat
open Go.RowKit
set_option linter.unusedVariables false
set_option linter.unusedSimpArgs false

def Vw.norm (v : Vw) : Vw := ⟨v.c, v.wi, v.ep, v.h, v.st, none, 0, v.l⟩
noncomputable def stepV (v : Vw) (s : Sg) : Vw := if accE v s = 0 then ⟨v.c, v.wi, v.ep, s.hh, s.hst, none, 0, s.sl⟩ else v.norm
noncomputable def folV (v : Vw) (ls : List Sg) : Vw := ls.foldl stepV v.norm
noncomputable def folE : Vw → List Sg → List Int
  | _, [] => []
  | v, s :: r => accE v s :: folE (stepV v s) r
theorem accE_norm (v : Vw) (s : Sg) : accE v.norm s = accE v s := rfl
theorem stepV_norm (v : Vw) (s : Sg) : stepV v.norm s = stepV v s := rfl
theorem folE_app (l : List Sg) : ∀ (v : Vw) (s : Sg), folE v (l ++ [s]) = folE v l ++ [accE (l.foldl stepV v) s] := by
  induction l with
  | nil => intro v s; rfl
  | cons x r ih => intro v s; simp only [List.cons_append, folE, List.foldl_cons, ih]
theorem folE_len (l : List Sg) : ∀ (v : Vw), (folE v l).length = l.length := by
  induction l with
  | nil => intro v; rfl
  | cons x r ih => intro v; simp only [folE, List.length_cons, ih]
theorem folV_take {v : Vw} {ls : List Sg} {i : Nat} (h : i < ls.length) : folV v (ls.take (i + 1)) = stepV (folV v (ls.take i)) ls[i] := by
  unfold folV
  rw [List.take_succ_eq_append_getElem h, List.foldl_append]
  rfl
theorem folE_take {v : Vw} {ls : List Sg} {i : Nat} (h : i < ls.length) : folE v.norm (ls.take (i + 1)) = folE v.norm (ls.take i) ++ [accE (folV v (ls.take i)) ls[i]] := by
  rw [List.take_succ_eq_append_getElem h, folE_app]
  rfl

/-- Sights in memory. -/
def SgsAt (w : World) (la : Option Addr) (ls : List Sg) : Prop :=
  (∀ s ∈ ls, s.Ok w) ∧ (ls = [] ∨ ∃ b off, la = some ⟨b, off, none⟩ ∧ b < w.heap.size ∧ ∀ i s, ls[i]? = some s → ∀ k x, s.arr[k]? = some x → w.cell? ⟨b, off + i * 16 + k, none⟩ = some x)
theorem SgsAt.below {w w' : World} {la : Option Addr} {ls : List Sg} (h : SgsAt w la ls) (hb : Below w.heap.size w w') : SgsAt w' la ls := by
  refine ⟨fun s hs => (h.1 s hs).below hb, ?_⟩
  rcases h.2 with h | ⟨b, off, e, hl, hc⟩
  · exact .inl h
  · exact .inr ⟨b, off, e, Nat.lt_of_lt_of_le hl hb.size, fun i s hs k x hx => by rw [hb.cell (p := ⟨b, off + i * 16 + k, none⟩) hl]; exact hc i s hs k x hx⟩
theorem SgsAt.one {w : World} {la : Option Addr} {ls : List Sg} (h : SgsAt w la ls) {i : Nat} (hi : i < ls.length) : ∃ b off, la = some ⟨b, off, none⟩ ∧ b < w.heap.size ∧ (∀ w', Below w.heap.size w w' → ∀ k x, ls[i].arr[k]? = some x → w'.cell? ⟨b, off + i * 16 + k, none⟩ = some x) ∧ ls[i].Ok w := by
  rcases h.2 with e | ⟨b, off, e, hl, hc⟩
  · rw [e] at hi; simp at hi
  · exact ⟨b, off, e, hl, fun w' hb k x hx => by rw [hb.cell (p := ⟨b, off + i * 16 + k, none⟩) hl]; exact hc i _ (List.getElem?_eq_getElem hi) k x hx, h.1 _ (List.getElem_mem hi)⟩

/-- The cells of answers. -/
def flatE (l : List Int) : List Value := l.map fun n => .int .i64 n
theorem infoErr : (Tryz.prog.info? 45).map (fun i => (i.zero, i.size, i.bytes)) = some (some (.int .i64 0), 1, 8) := by kernel_rfl
theorem app_err (w : World) (base : Nat) (sv : Value) (done : List Int) (hown : w.ownsRow base 45 1 sv done.length (flatE done)) (x : Int) (hd : done.length ≤ 200000) (hb : base ≤ w.heap.size) (n : Nat) (hn : done.length = n) :
    ∃ g cap w', (Builtin.append_ #[41, 41] 41 #[sv, .slice (some ⟨w.heap.size, 0, none⟩) 1 1]).run Tryz.prog (w.alloc (.cells #[.int .i64 x] 45)) = .ok (.slice (some ⟨g, 0, none⟩) (n + 1) cap) w' ∧ w'.ownsRow base 45 1 (.slice (some ⟨g, 0, none⟩) (n + 1) cap) (done ++ [x]).length (flatE (done ++ [x])) ∧ (w.alloc (.cells #[.int .i64 x] 45)).grownBy w' sv.ownBlock ∧ (sv.ownBlock = some g ∨ g = w.heap.size + 1) := by
  subst hn
  obtain ⟨i0, hi, hz0, hz1, hz2⟩ := info_parts infoErr
  have hk := Blk.new w #[.int .i64 x] 45
  obtain ⟨g, cap, w', hr, h1, h2, h3, h4⟩ := run_append_lies (P := Tryz.prog) (w.alloc (.cells #[.int .i64 x] 45)) 41 41 base 45 i0 (.int .i64 0) 1 8 Tryz.underlying41 hi hz0 hz1 hz2 rfl (by decide) _ _ _ (hown.alloc _) ⟨w.heap.size, 0, none⟩ 1 1 [.int .i64 x] rfl (fun j u hj => by
    cases j with
    | zero =>
      simp only [List.getElem?_cons_zero, Option.some.injEq] at hj
      subst hj
      exact (hk.cell 0).trans rfl
    | succ j => simp at hj) (by simp [Value.oneCell']) (by omega) (by unfold maxLen; omega) (by omega) (by simp; omega) _ rfl
  refine ⟨g, cap, w', hr, ?_, h2, h3.imp id (fun e => by rw [e]; simp)⟩
  have e : flatE (done ++ [x]) = flatE done ++ [.int .i64 x] := by simp [flatE]
  rw [e, List.length_append]
  exact h1

/-- Follow under way: what is believed lies at vb, the answers are in av. -/
structure FolAt (w0 : World) (vb : Nat) (v0 : Vw) (ls : List Sg) (i : Nat) (vi : Vw) (av : Value) (wv : World) : Prop where
  nv : vi.norm = folV v0 (ls.take i)
  ok : vi.Ok wv
  away : vi.l ≠ [] → ∀ a, vi.a = some a → a.block ≠ vb ∧ a.block ≠ vb + 1 ∧ av.ownBlock ≠ some a.block
  kv : Blk wv vb vi.arr 26
  kz : Blk wv (vb + 1) #[.int .i64 0, .int .i64 0, .int .i64 0, .int .i64 0, .int .u64 0, .slice none 0 0] 26
  own : wv.ownsRow (vb + 2) 45 1 av i (flatE (folE v0.norm (ls.take i)))
  below : Below w0.heap.size w0 wv
  vb_ : w0.heap.size ≤ vb
theorem err_len {v0 : Vw} {ls : List Sg} {i : Nat} (h : i ≤ ls.length) : (folE v0.norm (ls.take i)).length = i := by
  rw [folE_len, List.length_take]; omega
theorem SL.grown {w w' : World} {row : Option Nat} {la : Option Addr} {l : List (Int × Int)} {cap : Nat} (h : SL w la l cap) (hg : w.grownBy w' row) (hne : l ≠ [] → ∀ a, la = some a → row ≠ some a.block) : SL w' la l cap := by
  refine ⟨?_, h.le, h.cm⟩
  rcases h.at_ with e | ⟨b, off, e, hl, hc⟩
  · exact .inl e
  · by_cases hz : l = []
    · exact .inl hz
    have hn := hne hz _ e
    refine .inr ⟨b, off, e, Nat.lt_of_lt_of_le hl hg.size, fun i x hx => ?_⟩
    obtain ⟨h1, h2⟩ := hc i x hx
    exact ⟨hg.cell h1 (fun q => hn q.symm), hg.cell h2 (fun q => hn q.symm)⟩
theorem Vw.Ok.grown {w w' : World} {row : Option Nat} {v : Vw} (h : v.Ok w) (hg : w.grownBy w' row) (hne : v.l ≠ [] → ∀ a, v.a = some a → row ≠ some a.block) : v.Ok w' := ⟨h.ic, h.iwi, h.iep, h.ih, h.ist, h.sl.grown hg hne, h.few, h.in_⟩
theorem SL.setCell2 {w : World} {la : Option Addr} {l : List (Int × Int)} {cap : Nat} (h : SL w la l cap) {p : Addr} (hne : l ≠ [] → ∀ x, la = some x → p.block ≠ x.block) (v : Value) : SL (w.setCell p v) la l cap := by
  by_cases hz : l = []
  · exact ⟨.inl hz, h.le, h.cm⟩
  · exact h.setCell (hne hz) v
theorem Vw.Ok.setCell {w : World} {v : Vw} (h : v.Ok w) {p : Addr} (hne : v.l ≠ [] → ∀ a, v.a = some a → p.block ≠ a.block) (x : Value) : v.Ok (w.setCell p x) := ⟨h.ic, h.iwi, h.iep, h.ih, h.ist, h.sl.setCell2 hne x, h.few, h.in_⟩

/-- What Follow gives. -/
def Followed (v0 : Vw) (ls : List Sg) (w : World) (e : Ending) (w' : World) : Prop :=
  ∃ (vi : Vw) (ea : Option Addr) (ec : Nat), e = .returned (.tuple #[.agg vi.arr, .slice ea ls.length ec]) ∧ vi.norm = folV v0 ls ∧ vi.Ok w' ∧ IntsAt w' ea (folE v0.norm ls) ∧ Below w.heap.size w w'
theorem errs_at {w : World} {base n : Nat} {av : Value} {l : List Int} (h : w.ownsRow base 45 1 av n (flatE l)) (hn : l.length = n) : ∃ ea ec, av = .slice ea n ec ∧ IntsAt w ea l := by
  rcases h.2 with ⟨e, h0⟩ | ⟨g, cap, cur, e, hb, hg, hle, hcm, hs, ht⟩
  · subst e
    subst h0
    exact ⟨none, 0, rfl, .inl (List.eq_nil_of_length_eq_zero hn)⟩
  · refine ⟨_, cap, e, .inr ⟨g, 0, rfl, (Array.getElem?_eq_some_iff.1 hg).1, fun i x hx => ?_⟩⟩
    have hc := h.cells (g := g) (by rw [e]; rfl) i (.int .i64 x) (by unfold flatE; rw [List.getElem?_map, hx]; rfl)
    rw [addr_plus] at hc
    exact hc
end Go.Proofs.YtblnlfcfjbfhiaaGreat
