import Derived.Test.YtackcbpabjhmpaaGreatM08
namespace Go.Proofs.YtackcbpabjhmpaaGreat
open Go.RowKit
set_option linter.unusedVariables false
set_option linter.unusedSimpArgs false
theorem eachL_pv {α : Type} {atoms : α → List Atom} {flds : α → List Fld} {els : List Sc} (h : ∀ x, atoms x = atomsAll els (pvAll (flds x))) : ∀ xs : List α, eachL atoms xs = eachL (fun e => atomsAll els e) (pvRows (xs.map flds))
 | [] => rfl
 | x :: xs => by
  show atoms x ++ eachL atoms xs = atomsAll els (pvAll (flds x)) ++ eachL _ (pvRows (xs.map flds))
  rw [h x, eachL_pv h xs]
theorem list_pv {α : Type} {atoms : α → List Atom} {flds : α → List Fld} {els : List Sc} (h : ∀ x, atoms x = atomsAll els (pvAll (flds x))) (m : Int) (l : Lst α) : listL m atoms l.xs = Sc.atoms (.list m els) (l.fld flds).pv := by
 show Atom.num m _ :: eachL atoms l.xs = Sc.atoms (.list m els) (.l (pvRows (l.xs.map flds)))
 rw [Sc.atoms, ← eachL_pv h, pvRows_len, List.length_map]
theorem int_pv (x : Int) : intA x = atomsAll [numC] (pvAll (intF x)) := by
 simp [intA, intF, pvAll, Fld.pv, atomsAll, Sc.atoms]
theorem pair_pv (x : Int × Int) : pairA x = atomsAll pairSc (pvAll (pairF x)) := by
 simp [pairA, pairF, pvAll, Fld.pv, atomsAll, Sc.atoms]
theorem Header.pv (x : Header) : x.atoms = atomsAll Header.sc (pvAll x.flds) := by
 simp [Header.atoms, Header.sc, Header.flds, pvAll, Fld.pv, atomsAll, Sc.atoms, nums, digs, intA, digL, List.replicate]
theorem Cert.pv (x : Cert) : x.atoms = atomsAll Cert.sc (pvAll x.flds) := by
 have h := list_pv int_pv 7 x.fr
 simp only [Cert.atoms, Cert.sc, Cert.flds, pvAll, List.replicate, List.cons_append, List.nil_append, atomsAll, h]
 simp [Fld.pv, Sc.atoms, nums]
theorem Vote.pv (x : Vote) : x.atoms = atomsAll Vote.sc (pvAll x.flds) := by
 simp [Vote.atoms, Vote.sc, Vote.flds, pvAll, Fld.pv, atomsAll, Sc.atoms, nums, intA, flagL, digL, List.replicate]
theorem atomsAll_app : ∀ {a b : List Sc} {u v : List Pv}, u.length = a.length → atomsAll (a ++ b) (u ++ v) = atomsAll a u ++ atomsAll b v
 | [], b, [], v, _ => by simp [atomsAll]
 | [], b, _ :: _, v, h => by cases h
 | c :: a, b, [], v, h => by cases h
 | c :: a, b, x :: u, v, h => by
  show atomsAll (c :: (a ++ b)) (x :: (u ++ v)) = _
  rw [atomsAll, atomsAll_app (by simpa using h), atomsAll, List.append_assoc]
theorem sub_pv {a b : List Sc} {f g : List Fld} (h : f.length = a.length) : atomsAll (a ++ b) (pvAll (f ++ g)) = atomsAll a (pvAll f) ++ atomsAll b (pvAll g) := by
 rw [pvAll_app, atomsAll_app (by rw [pvAll_len]; exact h)]
theorem Guilt.pv (x : Guilt) : x.atoms = atomsAll Guilt.sc (pvAll x.flds) := by
 show x.a.atoms ++ x.c.atoms = atomsAll (Vote.sc ++ Vote.sc) (pvAll (x.a.flds ++ x.c.flds))
 rw [sub_pv rfl, x.a.pv, x.c.pv]
theorem Turn.pv (x : Turn) : x.atoms = atomsAll Turn.sc (pvAll x.flds) := by
 simp [Turn.atoms, Turn.sc, Turn.flds, pvAll, Fld.pv, atomsAll, Sc.atoms, digL]
theorem Proof.pv (x : Proof) : x.atoms = atomsAll Proof.sc (pvAll x.flds) := by
 have h := list_pv Turn.pv 288 x.tu
 simp only [Proof.atoms, Proof.sc, Proof.flds, pvAll, List.cons_append, List.nil_append, atomsAll, h]
 simp [Fld.pv, Sc.atoms]
theorem Sight.pv (x : Sight) : x.atoms = atomsAll Sight.sc (pvAll x.flds) := by
 have h := list_pv pair_pv 7 x.se
 show x.hd.atoms ++ x.ce.atoms ++ benchL x.se.xs = atomsAll (Header.sc ++ (Cert.sc ++ [.list 7 pairSc])) (pvAll (x.hd.flds ++ (x.ce.flds ++ [x.se.fld pairF])))
 rw [sub_pv rfl, sub_pv rfl, x.hd.pv, x.ce.pv, List.append_assoc]
 unfold benchL
 rw [h]
 simp [pvAll, atomsAll]
theorem Tx.pv (x : Tx) : x.atoms = atomsAll Tx.sc (pvAll x.flds) := by
 have h1 := list_pv int_pv 8 x.ar
 have h2 := list_pv Sight.pv 1 x.si
 have h3 := list_pv Proof.pv 1 x.pr
 simp only [Tx.atoms, Tx.sc, Tx.flds, pvAll, List.replicate, List.cons_append, List.nil_append, atomsAll, h1, h2, h3]
 simp [Fld.pv, Sc.atoms, nums]
theorem Block.pv (x : Block) : x.atoms = atomsAll Block.sc (pvAll x.flds) := by
 have h1 := list_pv Tx.pv 16 x.tx
 have h2 := list_pv Guilt.pv 4 x.gu
 show x.hd.atoms ++ listL 16 Tx.atoms x.tx.xs ++ listL 4 Guilt.atoms x.gu.xs = atomsAll (Header.sc ++ ([.list 16 Tx.sc] ++ [.list 4 Guilt.sc])) (pvAll (x.hd.flds ++ [x.tx.fld Tx.flds, x.gu.fld Guilt.flds]))
 rw [sub_pv rfl, x.hd.pv, h1, h2, List.append_assoc]
 simp [pvAll, atomsAll]
theorem Motion.pv (x : Motion) : x.atoms = atomsAll Motion.sc (pvAll x.flds) := by
 have h1 := list_pv Cert.pv 1 x.ba
 show nums [x.ro, x.fr] ++ x.bl.atoms ++ listL 1 Cert.atoms x.ba.xs = atomsAll ([numC, numC] ++ (Block.sc ++ [.list 1 Cert.sc])) (pvAll ([.i x.ro, .i x.fr] ++ (x.bl.flds ++ [x.ba.fld Cert.flds])))
 rw [sub_pv rfl, sub_pv rfl, x.bl.pv, h1, List.append_assoc]
 simp [pvAll, atomsAll, Fld.pv, Sc.atoms, nums]
theorem Known.pv (x : Known) : x.atoms = atomsAll Known.sc (pvAll x.flds) := by
 show x.ce.atoms ++ x.bl.atoms = atomsAll (Cert.sc ++ Block.sc) (pvAll (x.ce.flds ++ x.bl.flds))
 rw [sub_pv rfl, x.ce.pv, x.bl.pv]
theorem Message.pv (x : Message) : x.atoms = atomsAll Message.sc (pvAll x.flds) := by
 have h1 := list_pv Vote.pv 512 x.vo
 have h2 := list_pv Motion.pv 2 x.mo
 have h3 := list_pv Known.pv 2 x.kn
 have h4 := list_pv Tx.pv 16 x.tx
 simp only [Message.atoms, Message.sc, Message.flds, pvAll, List.replicate, List.cons_append, List.nil_append, atomsAll, h1, h2, h3, h4]
 simp [Fld.pv, Sc.atoms, nums]
mutual
def Sc.wt : Sc → Nat
 | .num _ => 6
 | .flag => 1
 | .dig => 8
 | .text m => 6 + m.toNat
 | .list m els => 6 + m.toNat * wtAll els
def wtAll : List Sc → Nat
 | [] => 0
 | c :: cs => c.wt + wtAll cs
end
theorem eachL_le {els : List Sc} {n : Nat} : ∀ (es : List (List Pv)), (∀ e ∈ es, wtL (atomsAll els e) ≤ n) → wtL (eachL (fun e => atomsAll els e) es) ≤ es.length * n
 | [], _ => by simp [eachL, wtL]
 | e :: es, h => by
  have h1 := h e (by simp)
  have h2 := eachL_le es fun d hd => h d (by simp [hd])
  rw [eachL, wtL_append, List.length_cons, Nat.add_mul]
  omega
mutual
theorem Sc.wt_le : ∀ (c : Sc) (f : Fld), c.fits f → wtL (c.atoms f.pv) ≤ c.wt
 | .num m, f, h => by
  obtain ⟨n, rfl⟩ := fits_num h
  simp [Fld.pv, Sc.atoms, wtL, Atom.wt, Sc.wt]
 | .flag, f, h => by
  obtain ⟨n, rfl⟩ := fits_flag h
  simp [Fld.pv, Sc.atoms, flagL, flagB, wtL, Atom.wt, Sc.wt]
 | .dig, f, h => by
  obtain ⟨n, rfl⟩ := fits_dig h
  simp [Fld.pv, Sc.atoms, digL, wtL, Atom.wt, Sc.wt, be_len]
 | .text m, f, h => by
  obtain ⟨n, rfl⟩ := fits_text h
  rw [Sc.fits] at h
  simp [Fld.pv, Sc.atoms, textL, wtL, Atom.wt, Sc.wt]
  omega
 | .list m els, f, h => by
  obtain ⟨la, lc, es, rfl, _⟩ := fits_list h
  rw [Sc.fits] at h
  have h2 := eachL_le (els := els) (n := wtAll els) (pvRows es) (fun e he => by
   rw [pvRows_map] at he
   obtain ⟨d, hd, rfl⟩ := List.mem_map.1 he
   exact wtAll_le els d (h.2 d hd))
  rw [pvRows_len] at h2
  have h3 : es.length * wtAll els ≤ m.toNat * wtAll els := Nat.mul_le_mul_right _ (by omega)
  simp only [Fld.pv, Sc.atoms, wtL, Atom.wt, Sc.wt]
  omega
theorem wtAll_le : ∀ (cs : List Sc) (fs : List Fld), fitsAll cs fs → wtL (atomsAll cs (pvAll fs)) ≤ wtAll cs
 | [], fs, h => by
  rw [fits_nil h]
  simp [pvAll, atomsAll, wtL]
 | c :: cs, fs, h => by
  obtain ⟨f, gs, rfl, h1, h2⟩ := fits_cons h
  have a := Sc.wt_le c f h1
  have b := wtAll_le cs gs h2
  simp only [pvAll, atomsAll, wtL_append, wtAll]
  omega
end
theorem lst_fits {α : Type} {flds : α → List Fld} {els : List Sc} {m : Int} {l : Lst α} (h : Sc.fits (.list m els) (l.fld flds)) : (l.xs.length : Int) ≤ m ∧ ∀ x ∈ l.xs, fitsAll els (flds x) := by
 have h : Sc.fits (.list m els) (.l l.la l.lc (l.xs.map flds)) := h
 rw [Sc.fits] at h
 exact ⟨by simpa using h.1, fun x hx => h.2 _ (List.mem_map.2 ⟨x, hx, rfl⟩)⟩
theorem Tx.wt_le {x : Tx} (h : fitsAll Tx.sc x.flds) : wtL x.atoms ≤ 1000000 := by
 rw [x.pv]
 exact Nat.le_trans (wtAll_le _ _ h) (by decide)
theorem Block.wt_le {x : Block} (h : fitsAll Block.sc x.flds) : wtL x.atoms ≤ 100000000 := by
 rw [x.pv]
 exact Nat.le_trans (wtAll_le _ _ h) (by decide)
theorem Message.wt_le {x : Message} (h : fitsAll Message.sc x.flds) : wtL x.atoms ≤ 1099400000000 := by
 rw [x.pv]
 exact Nat.le_trans (wtAll_le _ _ h) (by decide)
theorem get_fits {cs : List Sc} {fs : List Fld} (h : fitsAll cs fs) (i : Nat) {c : Sc} {f : Fld} (hc : cs[i]? = some c) (hf : fs[i]? = some f) : c.fits f := by
 induction cs generalizing fs i with
 | nil => simp at hc
 | cons d ds ih =>
  obtain ⟨g, gs, rfl, h1, h2⟩ := fits_cons h
  cases i with
  | zero =>
   simp at hc hf
   subst hc hf
   exact h1
  | succ i => exact ih h2 i (by simpa using hc) (by simpa using hf)
theorem Sight.seats {x : Sight} (h : fitsAll Sight.sc x.flds) : x.se.xs.length ≤ 7 := by
 have := (lst_fits (flds := pairF) (els := pairSc) (m := 7) (l := x.se) (get_fits h 15 rfl rfl)).1
 omega
theorem Tx.seats {x : Tx} (h : fitsAll Tx.sc x.flds) : ∀ y ∈ x.si.xs, y.se.xs.length ≤ 140737488351232 := fun y hy => by
 have h1 := (lst_fits (flds := Sight.flds) (els := Sight.sc) (m := 1) (l := x.si) (get_fits h 9 rfl rfl)).2 y hy
 have := Sight.seats h1
 omega
theorem Block.txs {x : Block} (h : fitsAll Block.sc x.flds) : ∀ y ∈ x.tx.xs, wtL y.atoms ≤ 1099400000000 := fun y hy => by
 have h1 := (lst_fits (flds := Tx.flds) (els := Tx.sc) (m := 16) (l := x.tx) (get_fits h 9 rfl rfl)).2 y hy
 have := Tx.wt_le h1
 omega
def riseI (least : Int) : List Int → Bool
 | [] => true
 | n :: r => if n < least then false else riseI (wrap64 (n + 1)) r
theorem hb1' {base : Nat} {w wv : World} (hb : Below w.heap.size w wv) (hb0 : base ≤ w.heap.size) (o : Obj) : Below base wv (wv.alloc o) := (Below.refl _ _).alloc (Nat.le_trans hb0 hb.size) _
theorem mayCert1_any (n : Int) (w : World) : Calls Tryz.prog 136 #[.int .i64 n] w fun e w' => e = .returned (.int .i64 n) ∧ Below w.heap.size w w' := by
 go_enter Tryz.func136, Tryz.ntmps136
 go_wp2
 go_ret
 exact ⟨rfl, Below.refl _ _⟩
theorem mayProof1_any (p d : Int) (w : World) : Calls Tryz.prog 155 #[.agg #[.int .i64 p, .int .u64 d]] w fun e w' => e = .returned (.int .i64 p) ∧ Below w.heap.size w w' := by
 go_enter Tryz.func155, Tryz.ntmps155
 go_wp2
 go_ret
 exact ⟨rfl, by first | exact Below.refl _ _ | exact (Below.refl _ _).alloc (Nat.le_refl _) _⟩
set_option maxHeartbeats 1600000 in
theorem riseInt_anyX (base : Nat) (l : Lst Int) (least : Int) (w : World) (hb0 : base ≤ w.heap.size) (hh : l.Held intF 1 base w) :
  Calls Tryz.prog 135 #[.slice l.la l.xs.length l.lc, .int .i64 least, .func (.func 136) #[] #[]] w fun e w' => e = .returned (.bool (riseI least l.xs)) ∧ Below w.heap.size w w' := by
 obtain ⟨la, lc, xs⟩ := l
 obtain ⟨hc, hcm, _⟩ := id hh
 simp only at hc hcm ⊢
 unfold maxLen at hcm
 go_enter Tryz.func135, Tryz.ntmps135
 go_wp2
 go_loopw [1, 8, 9, 12] (fun lv _ _ iv wv => ∃ (k : Nat) (t : Int), k ≤ xs.length ∧ iv = .int .i64 k ∧ lv = .int .i64 t ∧ Hid (riseI least xs = riseI t (xs.drop k)) ∧ Below w.heap.size w wv) (fun _ _ _ iv _ => xs.length - (intOf iv).toNat)
 case atStart => exact ⟨0, least, Nat.zero_le _, rfl, rfl, rfl, Below.refl _ _⟩
 case round =>
  obtain ⟨k, t, hk, rfl, rfl, HR, hb⟩ := hrel
  by_cases hlt : k < xs.length
  ·have hlt' : (k : Int) < (xs.length : Int) := by omega
   obtain ⟨_, _, h0 | ⟨rb, ro, e0, rl, rz, rc⟩⟩ := hh.below (hb.mono hb0)
   ·simp only at h0; subst h0; simp at hlt
   simp only at e0 rc
   subst e0
   have rk := rc k (xs[k]'hlt) (List.getElem?_eq_getElem hlt)
   have HS : Hid (riseI t (xs.drop k) = if (xs[k]'hlt) < t then false else riseI (wrap64 ((xs[k]'hlt) + 1)) (xs.drop (k + 1))) := by
    show _ = _
    rw [List.drop_eq_getElem_cons (by simpa using hlt)]; simp [riseI]
   obtain ⟨y, Hy⟩ : ∃ y : Int, Hid (y = xs[k]'hlt) := ⟨xs[k]'hlt, rfl⟩
   rw [← Hy.out] at rk HS
   rw [Nat.mul_one] at rk
   have e1 := rk.get0 rfl
   simp only [Fld.val] at e1
   have hyb : -9223372036854775808 ≤ y ∧ y ≤ 9223372036854775807 := rk.goods.get 0 rfl
   clear rc
   go_wp2_with fail
   refine (mayCert1_any y _).mono ?_
   rintro e w1 ⟨rfl, b1⟩
   have hb2 := hb.trans (b1.mono hb.size)
   by_cases hless : y < t
   ·have Hf : Hid (riseI least xs = false) := HR.out.trans (HS.out.trans (if_pos hless))
    clear HR HS
    go_wp2
    go_ret
    exact ⟨by rw [Hf.out]; rfl, hb2⟩
   ·have Hf : Hid (riseI least xs = riseI (wrap64 (y + 1)) (xs.drop (k + 1))) := HR.out.trans (HS.out.trans (if_neg hless))
    clear HR HS
    go_wp2
    exact ⟨⟨k + 1, wrap64 (y + 1), by omega, by go_num, by first | rfl | (unfold wrap64; go_num), Hf, hb2⟩, by simp [intOf]; omega⟩
  ·have Hf : Hid (riseI least xs = true) := by
    show _ = _
    rw [HR.out, List.drop_of_length_le (by first | omega | (simp; omega))]; rfl
   have hge : ¬ (k : Int) < (xs.length : Int) := by omega
   clear HR
   go_wp2
   go_ret
   exact ⟨by rw [Hf.out]; rfl, hb⟩
set_option maxHeartbeats 1600000 in
theorem riseTurn_anyX (base : Nat) (l : Lst Turn) (least : Int) (w : World) (hb0 : base ≤ w.heap.size) (hh : l.Held Turn.flds 2 base w) :
  Calls Tryz.prog 154 #[.slice l.la l.xs.length l.lc, .int .i64 least, .func (.func 155) #[] #[]] w fun e w' => e = .returned (.bool (riseI least (l.xs.map Turn.p))) ∧ Below w.heap.size w w' := by
 obtain ⟨la, lc, xs⟩ := l
 obtain ⟨hc, hcm, _⟩ := id hh
 simp only at hc hcm ⊢
 unfold maxLen at hcm
 go_enter Tryz.func154, Tryz.ntmps154
 go_wp2
 go_loopw [1, 8, 9, 12] (fun lv _ _ iv wv => ∃ (k : Nat) (t : Int), k ≤ xs.length ∧ iv = .int .i64 k ∧ lv = .int .i64 t ∧ Hid (riseI least (xs.map Turn.p) = riseI t ((xs.map Turn.p).drop k)) ∧ Below w.heap.size w wv) (fun _ _ _ iv _ => xs.length - (intOf iv).toNat)
 case atStart => exact ⟨0, least, Nat.zero_le _, rfl, rfl, rfl, Below.refl _ _⟩
 case round =>
  obtain ⟨k, t, hk, rfl, rfl, HR, hb⟩ := hrel
  by_cases hlt : k < xs.length
  ·have hlt' : (k : Int) < (xs.length : Int) := by omega
   obtain ⟨_, _, h0 | ⟨rb, ro, e0, rl, rz, rc⟩⟩ := hh.below (hb.mono hb0)
   ·simp only at h0; subst h0; simp at hlt
   simp only at e0 rc
   subst e0
   have rk := rc k (xs[k]'hlt) (List.getElem?_eq_getElem hlt)
   have HS : Hid (riseI t ((xs.map Turn.p).drop k) = if ((xs[k]'hlt).p) < t then false else riseI (wrap64 (((xs[k]'hlt).p) + 1)) ((xs.map Turn.p).drop (k + 1))) := by
    show _ = _
    rw [List.drop_eq_getElem_cons (by simpa using hlt)]; simp [riseI]
   obtain ⟨y, Hy⟩ : ∃ y : Turn, Hid (y = xs[k]'hlt) := ⟨xs[k]'hlt, rfl⟩
   rw [← Hy.out] at rk HS
   have e1 := rk.get0 rfl
   have e2 := rk.get 1 rfl
   simp only [Fld.val] at e1 e2
   have hyb : -9223372036854775808 ≤ y.p ∧ y.p ≤ 9223372036854775807 := rk.goods.get 0 rfl
   clear rc
   go_wp2_with fail
   refine (mayProof1_any y.p y.d _).mono ?_
   rintro e w1 ⟨rfl, b1⟩
   have hb1 := (hb.alloc hb.size (.cells #[.int .i64 y.p, .int .u64 y.d] 220))
   have hb2 := hb1.trans (b1.mono hb1.size)
   by_cases hless : y.p < t
   ·have Hf : Hid (riseI least (xs.map Turn.p) = false) := HR.out.trans (HS.out.trans (if_pos hless))
    clear HR HS
    go_wp2
    go_ret
    exact ⟨by rw [Hf.out]; rfl, hb2⟩
   ·have Hf : Hid (riseI least (xs.map Turn.p) = riseI (wrap64 (y.p + 1)) ((xs.map Turn.p).drop (k + 1))) := HR.out.trans (HS.out.trans (if_neg hless))
    clear HR HS
    go_wp2
    exact ⟨⟨k + 1, wrap64 (y.p + 1), by omega, by go_num, by first | rfl | (unfold wrap64; go_num), Hf, hb2⟩, by simp [intOf]; omega⟩
  ·have Hf : Hid (riseI least (xs.map Turn.p) = true) := by
    show _ = _
    rw [HR.out, List.drop_of_length_le (by first | omega | (simp; omega))]; rfl
   have hge : ¬ (k : Int) < (xs.length : Int) := by omega
   clear HR
   go_wp2
   go_ret
   exact ⟨by rw [Hf.out]; rfl, hb⟩
def Cert.may (x : Cert) : Bool := !(decide (x.s ≠ 1) && decide (x.s ≠ 2)) && !(!x.has && decide (x.bl ≠ 0)) && riseI 1 x.fr.xs
set_option maxHeartbeats 1600000 in
theorem mayCert_anyX (x : Cert) (w : World) (g : goods w.heap.size w x.flds) : Calls Tryz.prog 56 #[.agg #[.int .i64 x.h, .int .i64 x.r, .int .i64 x.s, .bool x.has, .int .u64 x.bl, .slice x.fr.la x.fr.xs.length x.fr.lc]] w fun e w' => e = .returned (.bool x.may) ∧ Below w.heap.size w w' := by
 have key : ∀ wv, Below w.heap.size w wv → Calls Tryz.prog 135 #[.slice x.fr.la x.fr.xs.length x.fr.lc, .int .i64 1, .func (.func 136) #[] #[]] wv fun e w' => e = .returned (.bool (riseI 1 x.fr.xs)) ∧ Below wv.heap.size wv w' := fun wv hv =>
  riseInt_anyX w.heap.size x.fr 1 wv hv.size (Lst.held (flds := intF) (l := x.fr) intF_len ((g.below hv).get 5 rfl))
 clear g
 obtain ⟨h, r, s, has, bl, fr⟩ := x
 simp only at key ⊢
 have bA : ∀ c, Below w.heap.size w (w.alloc (.cells c 42)) := fun c => (Below.refl _ _).alloc (Nat.le_refl _) _
 rcases (show s = 1 ∨ s = 2 ∨ (¬ s = 1 ∧ ¬ s = 2) by omega) with rfl | rfl | ⟨h1, h2⟩
 rotate_left
 rotate_left
 ·have e : (Cert.mk h r s has bl fr).may = false := by simp [Cert.may, h1, h2]
  rw [e]
  clear e
  have h1b : (s != 1) = true := by simpa using h1
  have h2b : (s != 2) = true := by simpa using h2
  go_enter Tryz.func56, Tryz.ntmps56
  go_wp2
  go_ret
  exact ⟨rfl, bA _⟩
 all_goals
  cases has
  ·by_cases hb : bl = 0
   ·subst hb
    go_enter Tryz.func56, Tryz.ntmps56
    go_wp2_with fail
    refine (key _ (bA _)).mono ?_
    rintro e w1 ⟨rfl, b1⟩
    go_wp2
    go_ret
    exact ⟨by simp [Cert.may], (bA _).trans (b1.mono (bA _).size)⟩
   ·have hbb : (bl != 0) = true := by simpa using hb
    go_enter Tryz.func56, Tryz.ntmps56
    go_wp2
    go_ret
    exact ⟨by simp [Cert.may, hb], bA _⟩
  ·go_enter Tryz.func56, Tryz.ntmps56
   go_wp2_with fail
   refine (key _ (bA _)).mono ?_
   rintro e w1 ⟨rfl, b1⟩
   go_wp2
   go_ret
   exact ⟨by simp [Cert.may], (bA _).trans (b1.mono (bA _).size)⟩
end Go.Proofs.YtackcbpabjhmpaaGreat
