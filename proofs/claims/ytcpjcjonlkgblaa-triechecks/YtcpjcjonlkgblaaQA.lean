/- The answer's bit of a key. -/
import Derived.Test.YtcpjcjonlkgblaaM04
import Derived.Test.YtcpjcjonlkgblaaM44
import Derived.Test.YtcpjcjonlkgblaaM41
import Derived.Test.YtcpjcjonlkgblaaM02
import Derived.Maps.AppendAt
import Derived.Test.YtcpjcjonlkgblaaPClash
import Derived.Test.YtcpjcjonlkgblaaM39

namespace Go.Proofs.Ytcpjcjonlkgblaa
open Go.RowKit
set_option linter.unusedVariables false
set_option linter.unusedSimpArgs false

theorem rbit_in (k : Key) (P : Int) (i o : Nat) (w : World) (hk : k.length ≤ maxLen) (h0 : 0 ≤ P) (hP : P ≤ 100000000) (h1 : P / 9 = i) (h2 : P % 9 = o) (ho : ¬ o = 0) (ho9 : o < 9) (hi : i < k.length) :
    Calls Try.prog 43 #[.string (str k), .int .i64 P] w fun e w' => e = .returned (.int .i64 ((k[i]'hi).toNat / 2 ^ (8 - o) % 2 : Nat)) ∧ w = w' := by
  have hsz := str_size k
  unfold maxLen at hk
  have hge : ¬ (k.length : Int) ≤ (i : Int) := by omega
  have hoi : ¬ (o : Int) = 0 := by omega
  have hob : ((o : Int) == 0) = false := by simpa using hoi
  have e : ∀ h', ((str k)[i]'h').toNat = k[i].toNat := fun h' => by rw [str_get k i hi h']
  have hx := k[i].toNat_lt
  obtain ⟨X, HX⟩ : ∃ X : Nat, Hid (k[i].toNat = X) := ⟨k[i].toNat, show k[i].toNat = k[i].toNat from rfl⟩
  have e2 : ∀ h', ((str k)[i]'h').toNat = X := fun h' => (e h').trans HX.out
  rw [HX.out] at hx ⊢
  clear e
  go_enter Try.func43, Try.ntmps43
  go_wp2_with fail
  try simp only [e2]
  go_loopw [7, 8] (fun nv kv wv => ∃ j : Nat, o ≤ j ∧ j ≤ 8 ∧ kv = .int .i64 j ∧ nv = .int .i64 ((X / 2 ^ (j - o) : Nat) : Int) ∧ w = wv) (fun _ kv _ => 8 - (intOf kv).toNat)
  case atStart => exact ⟨o, Nat.le_refl _, by omega, rfl, by rw [Nat.sub_self]; simp, rfl⟩
  case round =>
    obtain ⟨j, hj1, hj2, rfl, rfl, rfl⟩ := hrel
    have hd : X / 2 ^ (j - o) ≤ X := Nat.div_le_self _ _
    by_cases hj8 : j < 8
    · have hj8' : (j : Int) < 8 := by omega
      have HN : Hid (X / 2 ^ (j - o) / 2 = X / 2 ^ (j + 1 - o)) := by
        show _ = _
        rw [Nat.div_div_eq_div_mul, show j + 1 - o = (j - o) + 1 by omega, Nat.pow_succ]
      generalize X / 2 ^ (j - o) = Y at *
      have hq : (Y : Int).tdiv 2 = ((Y / 2 : Nat) : Int) := by rw [Int.tdiv_eq_ediv_of_nonneg (by omega)]; omega
      go_wp2
      exact ⟨⟨j + 1, by omega, by omega, by go_num, by rw [← HN.out]; first | rfl | (simp; omega) | (congr 1; omega), by first | rfl | trivial⟩, by simp [intOf]; omega⟩
    · have hj8' : ¬ (j : Int) < 8 := by omega
      obtain rfl : j = 8 := by omega
      obtain ⟨Y, HY⟩ : ∃ Y : Nat, Hid (X / 2 ^ (8 - o) = Y) := ⟨_, rfl⟩
      rw [HY.out] at hd ⊢
      go_wp2
      go_ret
      refine ⟨ret_i64 ?_, rfl⟩
      have h9 := HY.out
      push_cast
      rw [← h9]
      push_cast
      rfl

theorem rbit_first (k : Key) (P : Int) (i o : Nat) (w : World) (hk : k.length ≤ maxLen) (h0 : 0 ≤ P) (hP : P ≤ 100000000) (h1 : P / 9 = i) (h2 : P % 9 = o) (ho : o = 0) (hi : i < k.length) :
    Calls Try.prog 43 #[.string (str k), .int .i64 P] w fun e w' => e = .returned (.int .i64 1) ∧ w = w' := by
  have hsz := str_size k
  unfold maxLen at hk
  have hge : ¬ (k.length : Int) ≤ (i : Int) := by omega
  have hP9 : P % 9 = 0 := by omega
  go_enter Try.func43, Try.ntmps43
  go_wp2
  go_ret
  exact ⟨rfl, rfl⟩
theorem rbit_off (k : Key) (P : Int) (i : Nat) (w : World) (hk : k.length ≤ maxLen) (h0 : 0 ≤ P) (hP : P ≤ 100000000) (h1 : P / 9 = i) (hi : ¬ i < k.length) :
    Calls Try.prog 43 #[.string (str k), .int .i64 P] w fun e w' => e = .returned (.int .i64 0) ∧ w = w' := by
  have hsz := str_size k
  unfold maxLen at hk
  have hge : (k.length : Int) ≤ (i : Int) := by omega
  go_enter Try.func43, Try.ntmps43
  go_wp2
  go_ret
  exact ⟨rfl, rfl⟩
theorem rbit_any (k : Key) (p : Nat) (w : World) (hk : k.length ≤ maxLen) (hp : p ≤ 100000000) :
    Calls Try.prog 43 #[.string (str k), .int .i64 p] w fun e w' => e = .returned (.int .i64 (bitP k p : Nat)) ∧ w = w' := by
  by_cases hi : p / 9 < k.length
  · by_cases ho : p % 9 = 0
    · have e : bitP k p = 1 := by simp [bitP, hi, ho]
      rw [e]
      exact rbit_first k p (p / 9) (p % 9) w hk (by omega) (by omega) (by omega) (by omega) ho hi
    · have e : bitP k p = (k[p / 9]'hi).toNat / 2 ^ (8 - p % 9) % 2 := by simp [bitP, hi, ho]
      rw [e]
      exact rbit_in k p (p / 9) (p % 9) w hk (by omega) (by omega) (by omega) (by omega) ho (by omega) hi
  · have e : bitP k p = 0 := by
      unfold bitP
      rw [List.getElem?_eq_none (by omega)]
    rw [e]
    exact rbit_off k p (p / 9) w hk (by omega) (by omega) (by omega) hi
end Go.Proofs.Ytcpjcjonlkgblaa

namespace Go.Proofs.Ytcpjcjonlkgblaa
open Go.RowKit
set_option linter.unusedVariables false
set_option linter.unusedSimpArgs false

set_option maxHeartbeats 400000 in
theorem whole_new (x : Int) (w : World) (hx : 0 ≤ x ∧ x ≤ 18446744073709551615) :
    Calls Try.prog 42 #[.int .u64 x, .bool true] w fun e w' => ∃ v, e = .returned v ∧ ImgN w.heap.size w' 5 [str (be x 8)] v ∧ Below w.heap.size w w' := by
  go_enter Try.func42, Try.ntmps42
  go_wp2_with fail
  refine (reight _ _ hx).mono ?_
  rintro e w2 ⟨rfl, b12⟩
  obtain ⟨kc, kf, kz⟩ := own_kept b12
  have c0 := kc 0
  have c1 := kc 1
  have f0 := kf 0
  have f1 := kf 1
  clear kc kf
  go_wp2
  have hS := strs_one ((w2.setCell ⟨w.heap.size, 0, none⟩ (.int .i64 5)).setCell ⟨w.heap.size, 1, none⟩ (.slice (some ⟨w2.heap.size, 0, none⟩) 1 1)) (str (be x 8)) (be8_size x)
  rw [size_setCell, size_setCell] at hS
  have hb : Below w.heap.size w w2 := ((Below.refl _ _).alloc (Nat.le_refl _) _).trans (b12.mono (by simp))
  exact bodyPost_ret (v := .agg #[.int .i64 5, .slice (some ⟨w2.heap.size, 0, none⟩) 1 1]) (by simp [results, Try.results42, go_sem, c0, c1, kz]) rfl
    ⟨_, rfl, ⟨_, 1, rfl, Nat.le_of_lt kz, by rw [World.size_alloc, size_setCell, size_setCell]; omega, hS⟩, ((hb.setCell (Nat.le_refl _) _).setCell (Nat.le_refl _) _).alloc (by rw [size_setCell, size_setCell]; exact Nat.le_of_lt kz) _⟩

theorem q_append_run {P : Program} {w : World} {ops : Array Oper} {rest : List Oper} {o : Oper} {a : Act} {Q : Exit → Act → World → Prop} (hgd : o.guard = none) (s x : Operand) (t : TypeId) (ho : o.op = .call { callee := .builtin .append, args := #[s, x], argTypes := #[t, t] })
    (v1 v2 v : Value) (w' : World) (hs : a.eval s = v1) (hx : a.eval x = v2) (hr : (Builtin.append_ #[t, t] o.type #[v1, v2]).run P w = .ok v w') (h : wpList P ops Q rest (a.put o.dst v) w') : wpList P ops Q (o :: rest) a w :=
  wpList_plain hgd fun _ hK => by
    refine (?_ : Oper.wp P o a w _ _)
    unfold Oper.wp execOp
    simp only [ho, resolve, invoke, builtin, Sem.run_bind, Sem.run_pure, Result.andThen_ok, List.map_toArray, List.map_cons, List.map_nil, hs, hx, hr]
    exact hK _ _ h

theorem app_img (w : World) (base : Nat) (sv : Value) (E : List Ent) (e : Ent) (hown : w.ownsRow base 47 2 sv E.length (flatE E)) (b : Nat) (hT : Blk w b #[.int .i64 e.tag, .slice e.a e.ss.length e.cap] 47) (hd : E.length ≤ 2000000) (hb : base ≤ w.heap.size) :
    ∃ v w', (Builtin.append_ #[70, 70] 70 #[sv, .slice (some ⟨b, 0, none⟩) 1 1]).run Try.prog w = .ok v w' ∧ w'.ownsRow base 47 2 v (E ++ [e]).length (flatE (E ++ [e])) ∧ w.grownBy w' sv.ownBlock ∧ (v.ownBlock = sv.ownBlock ∨ v.ownBlock = some w.heap.size) := by
  obtain ⟨i0, hi, hz0, hz1, hz2⟩ := info_parts infoImg
  obtain ⟨v, w', hr, h1, h2, _, h4⟩ := run_append_own_at (P := Try.prog) w base 70 70 47 i0 (.agg #[.int .i64 0, .slice none 0 0]) 2 32 Try.underlying70 hi hz0 hz1 hz2 rfl (by decide) _ _ _ hown ⟨b, 0, none⟩ 1 1 e.cells rfl (fun j u hj => by
    have hj1 : j < 2 := (List.getElem?_eq_some_iff.1 hj).1
    have ha : (⟨b, 0, none⟩ : Addr).add j = ⟨b, j, none⟩ := by unfold Addr.add; split <;> simp_all
    rw [ha, hT.cell]
    have : j = 0 ∨ j = 1 := by omega
    rcases this with rfl | rfl <;> simpa [Ent.cells] using hj) (by intro u hu; simp [Ent.cells] at hu; rcases hu with rfl | rfl <;> rfl) (by unfold maxLen; omega) (by omega) hb
  exact ⟨v, w', hr, by rw [flatE_snoc, List.length_append]; exact h1, h2, h4⟩

structure ClAt (w : World) (la : Option Addr) (cap : Nat) (tu : List (Int × Int)) (pk pv : Key) (I : Nat) (sv : Value) (E : List Ent) (W : World) : Prop where
  below : Below w.heap.size w W
  hI : w.heap.size < I
  p : Blk W w.heap.size #[.slice la tu.length cap, .bool true, .string (str pk), .string (str pv)] 25
  i : ∃ x y, Blk W I #[x, y] 47
  row : W.ownsRow (I + 1) 47 2 sv E.length (flatE E)
  ok : okE W E
  ap : Apart sv E
  off : OffB I E
theorem ClAt.next {w : World} {la : Option Addr} {cap : Nat} {tu : List (Int × Int)} {pk pv : Key} {I : Nat} {sv : Value} {E : List Ent} {W W' : World} (h : ClAt w la cap tu pk pv I sv E W) (hb : Below W.heap.size W W') : ClAt w la cap tu pk pv I sv E W' := by
  obtain ⟨x, y, hi⟩ := h.i
  exact ⟨h.below.trans (hb.mono h.below.size), h.hI, h.p.below hb h.p.lt, ⟨x, y, hi.below hb hi.lt⟩, owns_below h.row hb, h.ok.below hb, h.ap, h.off⟩
theorem ClAt.store {w : World} {la : Option Addr} {cap : Nat} {tu : List (Int × Int)} {pk pv : Key} {I : Nat} {sv : Value} {E : List Ent} {W : World} (h : ClAt w la cap tu pk pv I sv E W) (x y : Value) :
    ClAt w la cap tu pk pv I sv E ((W.setCell ⟨I, 0, none⟩ x).setCell ⟨I, 1, none⟩ y) ∧ Blk ((W.setCell ⟨I, 0, none⟩ x).setCell ⟨I, 1, none⟩ y) I #[x, y] 47 := by
  obtain ⟨x0, y0, hi⟩ := h.i
  have hI := h.hI
  have hne : sv.ownBlock ≠ some I := fun e => by have := (h.row.lt I e).1; omega
  have hi2 := (hi.set 0 x).set 1 y
  refine ⟨⟨(h.below.setCell (p := ⟨I, 0, none⟩) (Nat.le_of_lt hI) _).setCell (p := ⟨I, 1, none⟩) (Nat.le_of_lt hI) _, hI, (h.p.setOther ⟨I, 0, none⟩ (Nat.ne_of_lt hI) _).setOther ⟨I, 1, none⟩ (Nat.ne_of_lt hI) _, ⟨x, y, hi2⟩, owns_set2 h.row I hne x y, (h.ok.set h.off 0 x).set h.off 1 y, h.ap, h.off⟩, hi2⟩
theorem ClAt.push {w : World} {la : Option Addr} {cap : Nat} {tu : List (Int × Int)} {pk pv : Key} {I : Nat} {sv : Value} {E : List Ent} {W : World} (h : ClAt w la cap tu pk pv I sv E W) (e : Ent) (b : Nat) (hb : e.a = some ⟨b, 0, none⟩) (hlt : b < W.heap.size) (hs : Strs W e.a e.ss) (hbI : I < b) (hbr : sv.ownBlock ≠ some b) (hd : E.length ≤ 2000000) :
    ∃ v w', (Builtin.append_ #[70, 70] 70 #[sv, .slice (some ⟨W.heap.size, 0, none⟩) 1 1]).run Try.prog (W.alloc (.cells #[.int .i64 e.tag, .slice e.a e.ss.length e.cap] 47)) = .ok v w' ∧ ClAt w la cap tu pk pv I v (E ++ [e]) w' ∧ (∀ k cs t, Blk W k cs t → sv.ownBlock ≠ some k → Blk w' k cs t) := by
  have hI := h.hI
  obtain ⟨x0, y0, hi⟩ := h.i
  have bE : Below W.heap.size W (W.alloc (.cells #[.int .i64 e.tag, .slice e.a e.ss.length e.cap] 47)) := (Below.refl _ _).alloc (Nat.le_refl _) _
  have hIW := hi.lt
  obtain ⟨v, w', hr, ho, hg, hat⟩ := app_img (W.alloc (.cells #[.int .i64 e.tag, .slice e.a e.ss.length e.cap] 47)) (I + 1) sv E e (h.row.alloc _) W.heap.size (Blk.new _ _ _) hd (by simp; omega)
  have ok1 : okE W (E ++ [e]) := h.ok.snoc e ⟨hs, b, 0, hb, hlt⟩
  have ap1 : Apart sv (E ++ [e]) := h.ap.snoc e fun b' off e' => by
    rw [hb] at e'
    injection e' with e'
    injection e' with e1 _
    rw [← e1]
    exact hbr
  have off1 : OffB I (E ++ [e]) := h.off.snoc e fun b' off e' => by
    rw [hb] at e'
    injection e' with e'
    injection e' with e1 _
    omega
  have keep : ∀ k cs t, Blk W k cs t → sv.ownBlock ≠ some k → Blk w' k cs t := fun k cs t hk hne => (hk.alloc _).grown hg hne
  have ok2 := ok1.below bE
  refine ⟨v, w', hr, ⟨((h.below.trans (bE.mono h.below.size)).grown hg (by have := h.below.size; simp; omega) (fun k e0 => by have := (h.row.lt k e0).1; omega)), hI, keep _ _ _ h.p (fun e0 => by have := (h.row.lt _ e0).1; omega), ⟨x0, y0, keep _ _ _ hi (fun e0 => by have := (h.row.lt _ e0).1; omega)⟩, ho, ok2.grown hg ap1, ?_, off1⟩, keep⟩
  intro x hx b' off' e'
  rcases hat with hat | hat
  · rw [hat]; exact ap1 x hx b' off' e'
  · rw [hat]
    intro e2
    obtain ⟨_, b2, o2, e3, l3⟩ := ok1 x hx
    rw [e'] at e3
    injection e3 with e3
    injection e3 with e3 _
    simp only [World.size_alloc, Option.some.injEq] at e2
    omega
end Go.Proofs.Ytcpjcjonlkgblaa

namespace Go.Proofs.Ytcpjcjonlkgblaa
open Go.RowKit
set_option linter.unusedVariables false
set_option linter.unusedSimpArgs false

theorem owns_row_lt {w : World} {base : Nat} {sv : Value} {E : List Ent} (h : w.ownsRow base 47 2 sv E.length (flatE E)) (b : Nat) (e : sv.ownBlock = some b) : b < w.heap.size := (h.lt b e).2
/-- What climb says. -/
def CLP (wd : Int) (key : Key) (p : Pf) (w : World) (e : Ending) (w' : World) : Prop := ∃ v, e = .returned (.tuple #[v, .int .i64 (mayE key p)]) ∧ (mayE key p = 0 → ∃ E, ImgsS w' v E ∧ E.map Ent.img = (wayP wd p).reverse ∧ E.length ≤ 1000002) ∧ Below w.heap.size w w'
theorem bits_no {key : Key} {p : Pf} {l : List (Int × Int)} {t : Int × Int} (ht : t ∈ l) (h : bitP key t.1.toNat ≠ bitP p.key t.1.toNat) : bitsOk key p l = false := by
  cases hb : bitsOk key p l with
  | false => rfl
  | true => exact absurd ((bitsOk_all key p l).1 hb t ht) h
theorem imgs_of {w : World} {base : Nat} {v : Value} {E : List Ent} (ho : w.ownsRow base 47 2 v E.length (flatE E)) (hk : okE w E) : Imgs w v E := by
  refine ⟨hk, ?_⟩
  rcases ho.2 with ⟨e, h0⟩ | ⟨g, cap, cur, e, _, hg, hc, hm, hs, ht⟩
  · exact .inl ⟨List.eq_nil_of_length_eq_zero h0, e⟩
  · refine .inr ⟨g, cap, cur, e, hc, hm, hg, fun m hm2 => ?_⟩
    obtain ⟨f1, f2⟩ := flatE_at E m hm2
    have hgd : E.getD m noEnt = E[m] := by simp [List.getD, hm2]
    simp only [hgd]
    rw [← ht, List.getElem?_take_of_lt (by omega)] at f1 f2
    exact ⟨by simpa using f1, by simpa using f2⟩

theorem imgsS_of {w : World} {v : Value} {E : List Ent} {wd : Int} {p : Pf} (h : Imgs w v E) (hm : E.map Ent.img = (wayP wd p).reverse) : ImgsS w v E := by
  obtain ⟨h1, h2⟩ := h
  refine ⟨fun e he => ⟨(h1 e he).1, ?_⟩, ?_⟩
  · exact wayP_few wd p e.img (List.mem_reverse.1 (by rw [← hm]; exact List.mem_map.2 ⟨e, he, rfl⟩))
  · rcases h2 with ⟨h2, _⟩ | h2
    · subst h2
      have : (wayP wd p).reverse = [] := hm.symm
      unfold wayP at this
      split at this <;> simp at this
    · exact h2

set_option maxRecDepth 8000 in
set_option maxHeartbeats 800000 in
theorem rclimb_leaf (wd : Int) (key : Key) (la : Option Addr) (cap : Nat) (tu : List (Int × Int)) (pk pv : Key) (w : World) (hw : okW wd) (hk : key.length ≤ 32) (hpk : pk.length ≤ maxLen) (hpv : pv.length ≤ maxLen) (hz : tu.length ≤ 1000000) (h : TurnsAt w la tu) (ht : ∀ t ∈ tu, (0 ≤ t.1 ∧ t.1 < 288) ∧ 0 ≤ t.2 ∧ t.2 ≤ 18446744073709551615)
    (hpz : putE ⟨true, pk, pv, tu⟩ = 0) (KP : ∀ w', Below w.heap.size w w' → Calls Try.prog 41 #[.agg #[.slice la tu.length cap, .bool true, .string (str pk), .string (str pv)]] w' fun e w'' => (∃ s, e = .returned (.tuple #[.string s, .int .i64 0])) ∧ Below w'.heap.size w' w'') :
    Calls Try.prog 28 #[.int .i64 wd, .string (str key), .agg #[.slice la tu.length cap, .bool true, .string (str pk), .string (str pv)]] w fun e w' => CLP wd key ⟨true, pk, pv, tu⟩ w e w' := by
  have hs := str_size key
  have hk' : ¬ ((key.length : Int) > 32) := by omega
  have bA : Below w.heap.size w (w.alloc (.cells #[.slice la tu.length cap, .bool true, .string (str pk), .string (str pv)] 25)) := (Below.refl _ _).alloc (Nat.le_refl _) _
  have kP := Blk.new w #[.slice la tu.length cap, .bool true, .string (str pk), .string (str pv)] 25
  go_enter Try.func28, Try.ntmps28
  go_wp2_with fail
  generalize w.alloc (.cells #[.slice la tu.length cap, .bool true, .string (str pk), .string (str pv)] 25) = wA at *
  refine (KP wA bA).mono ?_
  rintro e w1 ⟨⟨s1, rfl⟩, b1⟩
  have k1 := kP.below b1 kP.lt
  have c0 := (k1.cell 0).trans rfl
  have c1 := (k1.cell 1).trans rfl
  have c2 := (k1.cell 2).trans rfl
  have c3 := (k1.cell 3).trans rfl
  have z1 := k1.lt
  have B1 := bA.trans (b1.mono bA.size)
  clear KP
  go_wp2_with fail
  have kS := strs_two w1 (str pk) (str pv) (by rw [str_size]; exact hpk) (by rw [str_size]; exact hpv)
  have bS : Below w1.heap.size w1 (w1.alloc (.cells #[.string (str pk), .string (str pv)] 9)) := (Below.refl _ _).alloc (Nat.le_refl _) _
  have bC : Below (w1.alloc (.cells #[.string (str pk), .string (str pv)] 9)).heap.size (w1.alloc (.cells #[.string (str pk), .string (str pv)] 9)) (((w1.alloc (.cells #[.string (str pk), .string (str pv)] 9)).alloc (.cells #[.int .i64 3, .slice (some ⟨w1.heap.size, 0, none⟩) 2 2] 47)).alloc (.cells #[.int .i64 3, .slice (some ⟨w1.heap.size, 0, none⟩) 2 2] 47)) := ((Below.refl _ _).alloc (Nat.le_refl _) _).alloc (by simp) _
  have kI := (Blk.new (w1.alloc (.cells #[.string (str pk), .string (str pv)] 9)) #[.int .i64 3, .slice (some ⟨w1.heap.size, 0, none⟩) 2 2] 47).alloc (.cells #[.int .i64 3, .slice (some ⟨w1.heap.size, 0, none⟩) 2 2] 47)
  have kL := Blk.new ((w1.alloc (.cells #[.string (str pk), .string (str pv)] 9)).alloc (.cells #[.int .i64 3, .slice (some ⟨w1.heap.size, 0, none⟩) 2 2] 47)) #[.int .i64 3, .slice (some ⟨w1.heap.size, 0, none⟩) 2 2] 47
  simp only [World.size_alloc] at kI kL
  have kS2 := kS.below bC
  have b12 := bS.trans (bC.mono bS.size)
  have B2 := B1.trans (b12.mono B1.size)
  have kP2 := k1.below b12 k1.lt
  generalize (((w1.alloc (.cells #[.string (str pk), .string (str pv)] 9)).alloc (.cells #[.int .i64 3, .slice (some ⟨w1.heap.size, 0, none⟩) 2 2] 47)).alloc (.cells #[.int .i64 3, .slice (some ⟨w1.heap.size, 0, none⟩) 2 2] 47)) = w2 at *
  clear kS bS bC kP k1 c0 c1 c2 c3 z1 b1 bA
  refine (imgDig_any wd 3 [str pk, str pv] _ w2 hw (by simp [maxLen]) ⟨_, _, rfl, kS2⟩).mono ?_
  rintro e w3 ⟨rfl, b3⟩
  have B3 := B2.trans (b3.mono B2.size)
  have kP3 := kP2.below b3 kP2.lt
  have kI3 := kI.below b3 kI.lt
  have kL3 := kL.below b3 kL.lt
  have kS3 := kS2.below b3
  have p0 := (kP3.cell 0).trans rfl
  have zP := kP3.lt
  go_wp2_with fail
  have C0 : ClAt w la cap tu pk pv (w1.heap.size + 1) (.slice (some ⟨w1.heap.size + 1 + 1, 0, none⟩) 1 1) [⟨3, some ⟨w1.heap.size, 0, none⟩, 2, [str pk, str pv]⟩] w3 := by
    have hs1 := B1.size
    refine ⟨B3, by omega, kP3, ⟨_, _, kI3⟩, ⟨rfl, .inr ⟨_, 1, _, rfl, Nat.le_refl _, kL3, Nat.le_refl _, by decide, rfl, rfl⟩⟩, ?_, ?_, ?_⟩
    · intro e he
      simp only [List.mem_singleton] at he
      subst he
      exact ⟨kS3, _, _, rfl, by have := kL3.lt; omega⟩
    · intro e he b off e0
      simp only [List.mem_singleton] at he
      subst he
      injection e0 with e0
      injection e0 with e1 _
      simp only [Value.ownBlock, ne_eq, Option.some.injEq]
      omega
    · intro e he b off e0
      simp only [List.mem_singleton] at he
      subst he
      injection e0 with e0
      injection e0 with e1 _
      omega
  clear kP3 kI3 kL3 kS3 kP2 kI kL kS2 B2 B3 b12 b3 p0 zP
  generalize w1.heap.size + 1 = I at *
  clear B1
  go_loopw [12, 13, 14] (fun lv dv kv wv => ∃ (k : Nat) (D : Int) (E : List Ent), k ≤ tu.length ∧ kv = .int .i64 ((k : Int) - 1) ∧ dv = .int .u64 D ∧ Hid (D = upsD wd pk pv (tu.drop k)) ∧ (0 ≤ D ∧ D ≤ 18446744073709551615) ∧ Hid (E.map Ent.img = (ups wd pk pv (tu.drop k)).reverse) ∧ E.length ≤ tu.length + 1 - k ∧ Hid (bitsOk key ⟨true, pk, pv, tu⟩ (tu.drop k) = true) ∧ ClAt w la cap tu pk pv I lv E wv) (fun _ _ kv _ => (intOf kv + 1).toNat)
  case atStart => exact ⟨tu.length, _, _, Nat.le_refl _, rfl, rfl, by show _ = _; rw [List.drop_length]; rfl, ofP_bd _ _ _, by show _ = _; rw [List.drop_length]; rfl, by simp, by show _ = _; rw [List.drop_length]; rfl, C0⟩
  case round =>
    obtain ⟨k, D, E, hk1, rfl, rfl, HD, hD, HE, hEl, HB, R⟩ := hrel
    clear C0
    have q0 := (R.p.cell 0).trans rfl
    have q2 := (R.p.cell 2).trans rfl
    have zp := R.p.lt
    cases k with
    | zero =>
      rw [List.drop_zero] at HB
      have HM : Hid (mayE key ⟨true, pk, pv, tu⟩ = 0) := by show _ = _; unfold mayE; rw [if_pos hpz]; exact if_pos HB.out
      go_wp2_with fail
      refine (whole_new D wr hD).mono ?_
      rintro e w4 ⟨v4, rfl, ⟨b4, c4, rfl, hb4, hl4, hs4⟩, bw4⟩
      have R4 := R.next bw4
      obtain ⟨x0, y0, hi0⟩ := R.i
      have hIw := hi0.lt
      obtain ⟨R5, k5⟩ := R4.store (.int .i64 5) (.slice (some ⟨b4, 0, none⟩) 1 c4)
      have hs5 : Strs ((w4.setCell ⟨I, 0, none⟩ (.int .i64 5)).setCell ⟨I, 1, none⟩ (.slice (some ⟨b4, 0, none⟩) 1 c4)) (some ⟨b4, 0, none⟩) [str (be D 8)] := strs_set2 hs4 I (by omega) _ _
      have hi4 := hi0.below bw4 hi0.lt
      have y0' := (hi4.cell 0).trans rfl
      have y1' := (hi4.cell 1).trans rfl
      have yf0 := hi4.frozen 0
      have yf1 := hi4.frozen 1
      have z4 := hi4.lt
      have hl5 : b4 < ((w4.setCell ⟨I, 0, none⟩ (.int .i64 5)).setCell ⟨I, 1, none⟩ (.slice (some ⟨b4, 0, none⟩) 1 c4)).heap.size := by rw [size_setCell, size_setCell]; exact hl4
      obtain ⟨v6, w6, hr6, R6, _⟩ := R5.push ⟨5, some ⟨b4, 0, none⟩, c4, [str (be D 8)]⟩ b4 rfl hl5 hs5 (by omega) (fun e0 => by
        have := owns_row_lt R.row b4 e0
        omega) (by omega)
      have hr7 : (Builtin.append_ #[70, 70] 70 #[u12, .slice (some ⟨((w4.setCell ⟨I, 0, none⟩ (.int .i64 5)).setCell ⟨I, 1, none⟩ (.slice (some ⟨b4, 0, none⟩) 1 c4)).heap.size, 0, none⟩) 1 1]).run Try.prog (((w4.setCell ⟨I, 0, none⟩ (.int .i64 5)).setCell ⟨I, 1, none⟩ (.slice (some ⟨b4, 0, none⟩) 1 c4)).alloc (.cells #[.int .i64 5, .slice (some ⟨b4, 0, none⟩) 1 c4] 47)) = .ok v6 w6 := hr6
      have w0' := (k5.cell 0).trans rfl
      have w1' := (k5.cell 1).trans rfl
      have HW : Hid ((E ++ [(⟨5, some ⟨b4, 0, none⟩, c4, [str (be D 8)]⟩ : Ent)]).map Ent.img = (wayP wd ⟨true, pk, pv, tu⟩).reverse) := by
        show _ = _
        have h9 := HE.out
        have h8 := HD.out
        rw [List.drop_zero] at h9 h8
        rw [List.map_append, h9, h8]
        simp [wayP, Ent.img]
      clear hr6 hi4
      go_upto_region 30 with fail
      clear y0' y1' yf0 yf1
      generalize (w4.setCell ⟨I, 0, none⟩ (.int .i64 5)).setCell ⟨I, 1, none⟩ (.slice (some ⟨b4, 0, none⟩) 1 c4) = w5 at *
      have z5 := k5.lt
      have HI := imgsS_of (imgs_of R6.row R6.ok) HW.out
      have hfin : CLP wd key ⟨true, pk, pv, tu⟩ w (.returned (.tuple #[v6, .int .i64 0])) w6 := ⟨v6, by rw [HM.out], fun _ => ⟨_, HI, HW.out, by simp; omega⟩, R6.below⟩
      go_wp2_with (at_builtin; refine q_append_run rfl _ _ 70 rfl _ _ v6 w6 rfl rfl hr7 ?_)
      go_ret2
      exact hfin
    | succ j =>
      have hjl : j < tu.length := by omega
      have hj0 : (0 : Int) ≤ (j : Int) := by omega
      have hje : ((j + 1 : Nat) : Int) - 1 = (j : Int) := by omega
      rw [hje]
      rcases (h.below R.below) with h0 | ⟨tb, to_, e1, zt, cc⟩
      · rw [h0] at hjl; simp at hjl
      subst e1
      obtain ⟨a1, a2⟩ := cc j _ (List.getElem?_eq_getElem hjl)
      obtain ⟨g1, g2⟩ := ht _ (List.getElem_mem hjl)
      have hdr := List.drop_eq_getElem_cons hjl
      have hmem := List.getElem_mem hjl
      generalize tu[j] = x at *
      obtain ⟨xp, xd⟩ := x
      simp only at a1 a2 g1 g2
      clear cc
      obtain ⟨pp, rfl⟩ : ∃ pp : Nat, xp = pp := ⟨xp.toNat, by omega⟩
      have bT : Below wr.heap.size wr (wr.alloc (.cells #[.int .i64 pp, .int .u64 xd] 69)) := (Below.refl _ _).alloc (Nat.le_refl _) _
      have kT := Blk.new wr #[.int .i64 pp, .int .u64 xd] 69
      have R1 := R.next bT
      have hkm : key.length ≤ maxLen := by unfold maxLen; omega
      go_wp2_with fail
      generalize wr.alloc (.cells #[.int .i64 pp, .int .u64 xd] 69) = wT at *
      clear q0 q2 zp a1 a2
      have q2 := (R1.p.cell 2).trans rfl
      have zp := R1.p.lt
      have t0 := (kT.cell 0).trans rfl
      have t1 := (kT.cell 1).trans rfl
      have zT := kT.lt
      refine (rbit_any key pp wT hkm (by omega)).mono ?_
      rintro e _ ⟨rfl, rfl⟩
      go_wp2_with fail
      refine (rbit_any pk pp wT hpk (by omega)).mono ?_
      rintro e _ ⟨rfl, rfl⟩
      by_cases hb : bitP key pp = bitP pk pp
      rotate_left
      · have HM : Hid (mayE key ⟨true, pk, pv, tu⟩ = 2) := by
          show _ = _
          unfold mayE
          rw [if_pos hpz]
          exact if_neg (by rw [bits_no hmem (by simpa using hb)]; decide)
        have hbn : (((bitP key pp : Nat) : Int) != ((bitP pk pp : Nat) : Int)) = true := by simp; omega
        have hfin : CLP wd key ⟨true, pk, pv, tu⟩ w (.returned (.tuple #[.slice none 0 0, .int .i64 2])) wT := by
          unfold CLP
          rw [HM.out]
          exact ⟨_, rfl, fun h0 => absurd h0 (by decide), R1.below⟩
        clear HD HE HB hdr
        go_wp2
        go_ret2
        exact hfin
      rw [hb]
      go_wp2_with fail
      have K5 : Calls Try.prog 44 #[.int .i64 (pp : Int)] wT fun e w' => e = .returned (.string (str (be pp 5))) ∧ Below wT.heap.size wT w' := rfive (pp : Int) wT (by omega)
      refine K5.mono ?_
      rintro e w4 ⟨rfl, b4⟩
      go_wp2_with fail
      have K6 : Calls Try.prog 45 #[.int .u64 D] w4 fun e w' => e = .returned (.string (str (be D 8))) ∧ Below w4.heap.size w4 w' := reight D w4 hD
      refine K6.mono ?_
      rintro e w5 ⟨rfl, b5⟩
      have b45 := b4.trans (b5.mono b4.size)
      have kT5 := kT.below b45 kT.lt
      have t1 := (kT5.cell 1).trans rfl
      have zT := kT5.lt
      go_wp2_with fail
      have K7 : Calls Try.prog 45 #[.int .u64 xd] w5 fun e w' => e = .returned (.string (str (be xd 8))) ∧ Below w5.heap.size w5 w' := reight xd w5 g2
      refine K7.mono ?_
      rintro e w6 ⟨rfl, b6⟩
      have R6 := R1.next (b45.trans (b6.mono b45.size))
      clear K5 K6 K7
      clear R R1 kT kT5 t0 t1 zT q2 zp bT b4 b5 b45 b6
      by_cases hbit : bitP pk pp = 1
      · have hx1 : (((bitP pk pp : Nat) : Int) == 1) = true := by rw [hbit]; rfl
        have hs7 := strs_three (w6.alloc (.cells #[.string (str (be pp 5)), .string (str (be D 8)), .string (str (be xd 8))] 9)) (str (be pp 5)) (str (be xd 8)) (str (be D 8)) (be5_size _) (be8_size _) (be8_size _)
        rw [World.size_alloc] at hs7
        have b7 : Below w6.heap.size w6 ((w6.alloc (.cells #[.string (str (be pp 5)), .string (str (be D 8)), .string (str (be xd 8))] 9)).alloc (.cells #[.string (str (be pp 5)), .string (str (be xd 8)), .string (str (be D 8))] 9)) := ((Below.refl _ _).alloc (Nat.le_refl _) _).alloc (by simp) _
        go_upto_region 26 with fail
        have R7 := R6.next b7
        have hl7 : w6.heap.size + 1 < ((w6.alloc (.cells #[.string (str (be pp 5)), .string (str (be D 8)), .string (str (be xd 8))] 9)).alloc (.cells #[.string (str (be pp 5)), .string (str (be xd 8)), .string (str (be D 8))] 9)).heap.size := by simp
        generalize ((w6.alloc (.cells #[.string (str (be pp 5)), .string (str (be D 8)), .string (str (be xd 8))] 9)).alloc (.cells #[.string (str (be pp 5)), .string (str (be xd 8)), .string (str (be D 8))] 9)) = w7 at *
        obtain ⟨x0, y0, hi0⟩ := R7.i
        have hIw := R6.i
        obtain ⟨x6, y6, hi6⟩ := R6.i
        have hI6 := hi6.lt
        have y0' := (hi0.cell 0).trans rfl
        have y1' := (hi0.cell 1).trans rfl
        have yf0 := hi0.frozen 0
        have yf1 := hi0.frozen 1
        have z7 := hi0.lt
        obtain ⟨R8, k8⟩ := R7.store (.int .i64 4) (.slice (some ⟨w6.heap.size + 1, 0, none⟩) 3 3)
        have hs8 := strs_set2 hs7 I (by omega) (.int .i64 4) (.slice (some ⟨w6.heap.size + 1, 0, none⟩) 3 3)
        have hl8 : w6.heap.size + 1 < ((w7.setCell ⟨I, 0, none⟩ (.int .i64 4)).setCell ⟨I, 1, none⟩ (.slice (some ⟨w6.heap.size + 1, 0, none⟩) 3 3)).heap.size := by rw [size_setCell, size_setCell]; exact hl7
        obtain ⟨v9, w9, hr9, R9, keep⟩ := R8.push ⟨4, some ⟨w6.heap.size + 1, 0, none⟩, 3, [str (be pp 5), str (be xd 8), str (be D 8)]⟩ (w6.heap.size + 1) rfl hl8 hs8 (by omega) (fun e0 => by
          have := owns_row_lt R6.row _ e0
          omega) (by omega)
        have hr10 : (Builtin.append_ #[70, 70] 70 #[u12, .slice (some ⟨((w7.setCell ⟨I, 0, none⟩ (.int .i64 4)).setCell ⟨I, 1, none⟩ (.slice (some ⟨w6.heap.size + 1, 0, none⟩) 3 3)).heap.size, 0, none⟩) 1 1]).run Try.prog (((w7.setCell ⟨I, 0, none⟩ (.int .i64 4)).setCell ⟨I, 1, none⟩ (.slice (some ⟨w6.heap.size + 1, 0, none⟩) 3 3)).alloc (.cells #[.int .i64 4, .slice (some ⟨w6.heap.size + 1, 0, none⟩) 3 3] 47)) = .ok v9 w9 := hr9
        have k9 := keep I _ _ k8 (fun e0 => by have := (R8.row.lt I e0).1; omega)
        have hs9 := R9.ok ⟨4, some ⟨w6.heap.size + 1, 0, none⟩, 3, [str (be pp 5), str (be xd 8), str (be D 8)]⟩ (List.mem_append_right _ (List.mem_singleton.2 rfl))
        have hs9 : Strs w9 (some ⟨w6.heap.size + 1, 0, none⟩) [str (be pp 5), str (be xd 8), str (be D 8)] := hs9.1
        have w0' := (k8.cell 0).trans rfl
        have w1' := (k8.cell 1).trans rfl
        have z8 := k8.lt
        clear hr9 hi0 hi6 hIw keep
        go_upto_region 27 with fail
        clear y0' y1' yf0 yf1
        generalize (w7.setCell ⟨I, 0, none⟩ (.int .i64 4)).setCell ⟨I, 1, none⟩ (.slice (some ⟨w6.heap.size + 1, 0, none⟩) 3 3) = w8 at *
        have n0 := (k9.cell 0).trans rfl
        have n1 := (k9.cell 1).trans rfl
        have z9 := k9.lt
        go_upto_region 28 with (at_builtin; refine q_append_run rfl _ _ 70 rfl _ _ v9 w9 rfl rfl hr10 ?_)
        go_wp2_with fail
        refine (imgDig_any wd 4 [str (be pp 5), str (be xd 8), str (be D 8)] _ w9 hw (by simp [maxLen]) ⟨_, _, rfl, hs9⟩).mono ?_
        rintro e w10 ⟨rfl, b10⟩
        have R10 := R9.next b10
        have HD2 : Hid (ofP wd 4 [str (be pp 5), str (be xd 8), str (be D 8)] = upsD wd pk pv (tu.drop j)) := by
          show _ = _
          rw [hdr]
          simp only [upsD, digI, forkImg, forkParts, Int.toNat_natCast]
          rw [← HD.out]
          first | rw [if_pos hbit] | rw [if_neg hbit]
        have HE2 : Hid ((E ++ [(⟨4, some ⟨w6.heap.size + 1, 0, none⟩, 3, [str (be pp 5), str (be xd 8), str (be D 8)]⟩ : Ent)]).map Ent.img = (ups wd pk pv (tu.drop j)).reverse) := by
          show _ = _
          rw [hdr, List.map_append, HE.out]
          simp only [ups, List.reverse_cons, Ent.img, List.map_cons, List.map_nil, forkImg, forkParts, Int.toNat_natCast]
          rw [← HD.out]
          first | rw [if_pos hbit] | rw [if_neg hbit]
        have HB2 : Hid (bitsOk key ⟨true, pk, pv, tu⟩ (tu.drop j) = true) := by
          show _ = _
          rw [hdr]
          simp only [bitsOk, Int.toNat_natCast, HB.out, Bool.and_true]
          exact decide_eq_true hb
        clear HD HE HB hdr
        go_wp2
        exact ⟨⟨j, _, _, by omega, rfl, rfl, HD2, ofP_bd _ _ _, HE2, by simp; omega, HB2, R10⟩, by simp [intOf]⟩
      · have hx1 : (((bitP pk pp : Nat) : Int) == 1) = false := by simp; omega
        have hs7 := strs_three w6 (str (be pp 5)) (str (be D 8)) (str (be xd 8)) (be5_size _) (be8_size _) (be8_size _)
        have b7 : Below w6.heap.size w6 (w6.alloc (.cells #[.string (str (be pp 5)), .string (str (be D 8)), .string (str (be xd 8))] 9)) := (Below.refl _ _).alloc (Nat.le_refl _) _
        go_upto_region 26 with fail
        have R7 := R6.next b7
        have hl7 : w6.heap.size < (w6.alloc (.cells #[.string (str (be pp 5)), .string (str (be D 8)), .string (str (be xd 8))] 9)).heap.size := by simp
        generalize (w6.alloc (.cells #[.string (str (be pp 5)), .string (str (be D 8)), .string (str (be xd 8))] 9)) = w7 at *
        obtain ⟨x0, y0, hi0⟩ := R7.i
        have hIw := R6.i
        obtain ⟨x6, y6, hi6⟩ := R6.i
        have hI6 := hi6.lt
        have y0' := (hi0.cell 0).trans rfl
        have y1' := (hi0.cell 1).trans rfl
        have yf0 := hi0.frozen 0
        have yf1 := hi0.frozen 1
        have z7 := hi0.lt
        obtain ⟨R8, k8⟩ := R7.store (.int .i64 4) (.slice (some ⟨w6.heap.size, 0, none⟩) 3 3)
        have hs8 := strs_set2 hs7 I (by omega) (.int .i64 4) (.slice (some ⟨w6.heap.size, 0, none⟩) 3 3)
        have hl8 : w6.heap.size < ((w7.setCell ⟨I, 0, none⟩ (.int .i64 4)).setCell ⟨I, 1, none⟩ (.slice (some ⟨w6.heap.size, 0, none⟩) 3 3)).heap.size := by rw [size_setCell, size_setCell]; exact hl7
        obtain ⟨v9, w9, hr9, R9, keep⟩ := R8.push ⟨4, some ⟨w6.heap.size, 0, none⟩, 3, [str (be pp 5), str (be D 8), str (be xd 8)]⟩ (w6.heap.size) rfl hl8 hs8 (by omega) (fun e0 => by
          have := owns_row_lt R6.row _ e0
          omega) (by omega)
        have hr10 : (Builtin.append_ #[70, 70] 70 #[u12, .slice (some ⟨((w7.setCell ⟨I, 0, none⟩ (.int .i64 4)).setCell ⟨I, 1, none⟩ (.slice (some ⟨w6.heap.size, 0, none⟩) 3 3)).heap.size, 0, none⟩) 1 1]).run Try.prog (((w7.setCell ⟨I, 0, none⟩ (.int .i64 4)).setCell ⟨I, 1, none⟩ (.slice (some ⟨w6.heap.size, 0, none⟩) 3 3)).alloc (.cells #[.int .i64 4, .slice (some ⟨w6.heap.size, 0, none⟩) 3 3] 47)) = .ok v9 w9 := hr9
        have k9 := keep I _ _ k8 (fun e0 => by have := (R8.row.lt I e0).1; omega)
        have hs9 := R9.ok ⟨4, some ⟨w6.heap.size, 0, none⟩, 3, [str (be pp 5), str (be D 8), str (be xd 8)]⟩ (List.mem_append_right _ (List.mem_singleton.2 rfl))
        have hs9 : Strs w9 (some ⟨w6.heap.size, 0, none⟩) [str (be pp 5), str (be D 8), str (be xd 8)] := hs9.1
        have w0' := (k8.cell 0).trans rfl
        have w1' := (k8.cell 1).trans rfl
        have z8 := k8.lt
        clear hr9 hi0 hi6 hIw keep
        go_upto_region 27 with fail
        clear y0' y1' yf0 yf1
        generalize (w7.setCell ⟨I, 0, none⟩ (.int .i64 4)).setCell ⟨I, 1, none⟩ (.slice (some ⟨w6.heap.size, 0, none⟩) 3 3) = w8 at *
        have n0 := (k9.cell 0).trans rfl
        have n1 := (k9.cell 1).trans rfl
        have z9 := k9.lt
        go_upto_region 28 with (at_builtin; refine q_append_run rfl _ _ 70 rfl _ _ v9 w9 rfl rfl hr10 ?_)
        go_wp2_with fail
        refine (imgDig_any wd 4 [str (be pp 5), str (be D 8), str (be xd 8)] _ w9 hw (by simp [maxLen]) ⟨_, _, rfl, hs9⟩).mono ?_
        rintro e w10 ⟨rfl, b10⟩
        have R10 := R9.next b10
        have HD2 : Hid (ofP wd 4 [str (be pp 5), str (be D 8), str (be xd 8)] = upsD wd pk pv (tu.drop j)) := by
          show _ = _
          rw [hdr]
          simp only [upsD, digI, forkImg, forkParts, Int.toNat_natCast]
          rw [← HD.out]
          first | rw [if_pos hbit] | rw [if_neg hbit]
        have HE2 : Hid ((E ++ [(⟨4, some ⟨w6.heap.size, 0, none⟩, 3, [str (be pp 5), str (be D 8), str (be xd 8)]⟩ : Ent)]).map Ent.img = (ups wd pk pv (tu.drop j)).reverse) := by
          show _ = _
          rw [hdr, List.map_append, HE.out]
          simp only [ups, List.reverse_cons, Ent.img, List.map_cons, List.map_nil, forkImg, forkParts, Int.toNat_natCast]
          rw [← HD.out]
          first | rw [if_pos hbit] | rw [if_neg hbit]
        have HB2 : Hid (bitsOk key ⟨true, pk, pv, tu⟩ (tu.drop j) = true) := by
          show _ = _
          rw [hdr]
          simp only [bitsOk, Int.toNat_natCast, HB.out, Bool.and_true]
          exact decide_eq_true hb
        clear HD HE HB hdr
        go_wp2
        exact ⟨⟨j, _, _, by omega, rfl, rfl, HD2, ofP_bd _ _ _, HE2, by simp; omega, HB2, R10⟩, by simp [intOf]⟩
end Go.Proofs.Ytcpjcjonlkgblaa

namespace Go.Proofs.Ytcpjcjonlkgblaa
open Go.RowKit
set_option linter.unusedVariables false
set_option linter.unusedSimpArgs false

theorem told3_none (w : World) : Told3 w none (.tuple #[.agg #[.int .i64 0, .slice none 0 0], .agg #[.int .i64 0, .slice none 0 0], .bool false]) :=
  ⟨0, 0, [], [], none, none, 0, 0, rfl, ⟨by simp, .inl rfl⟩, ⟨by simp, .inl rfl⟩, by simp, by simp, rfl⟩
theorem ImgsS.at2 {w : World} {a : Option Addr} {n cap : Nat} {E : List Ent} (h : ImgsS w (.slice a n cap) E) (k : Nat) (hk : k < E.length) : ∃ g, a = some ⟨g, 0, none⟩ ∧ g < w.heap.size ∧ w.cell? ⟨g, k * 2, none⟩ = some (.int .i64 E[k].tag) ∧ w.cell? ⟨g, k * 2 + 1, none⟩ = some (.slice E[k].a E[k].ss.length E[k].cap) ∧ Strs w E[k].a E[k].ss := by
  obtain ⟨g, c, e, h1, h2, h3⟩ := h.at k hk
  injection e with e1 _ _
  exact ⟨g, e1, h1, h2, h3, (h.1 _ (List.getElem_mem hk)).1⟩

set_option maxHeartbeats 1600000 in
theorem runlike_any (a1 a2 : Option Addr) (c1 c2 : Nat) (E F : List Ent) (w : World) (hE : ImgsS w (.slice a1 E.length c1) E) (hF : ImgsS w (.slice a2 F.length c2) F) (hl : E.length ≤ 4611686018427387904) (hm : F.length ≤ 4611686018427387904) :
    Calls Try.prog 32 #[.slice a1 E.length c1, .slice a2 F.length c2] w fun e w' => ∃ v, e = .returned v ∧ Told3 w' (firstUn (E.map Ent.img).reverse (F.map Ent.img).reverse) v ∧ Below w.heap.size w w' := by
  have HsE : Hid (∀ e ∈ E, e.ss.length ≤ 3) := fun e he => (hE.1 e he).2
  have HsF : Hid (∀ e ∈ F, e.ss.length ≤ 3) := fun e he => (hF.1 e he).2
  go_enter Try.func32, Try.ntmps32
  go_wp2_with fail
  have bA := below_two w (.cells #[.int .i64 0, .slice none 0 0] 47) (.cells #[.int .i64 0, .slice none 0 0] 47)
  have kR1 : Blk ((w.alloc (.cells #[.int .i64 0, .slice none 0 0] 47)).alloc (.cells #[.int .i64 0, .slice none 0 0] 47)) w.heap.size #[.int .i64 0, .slice none 0 0] 47 := (Blk.new w _ _).alloc _
  have kR2 : Blk ((w.alloc (.cells #[.int .i64 0, .slice none 0 0] 47)).alloc (.cells #[.int .i64 0, .slice none 0 0] 47)) (w.heap.size + 1) #[.int .i64 0, .slice none 0 0] 47 := by have h := Blk.new (w.alloc (.cells #[.int .i64 0, .slice none 0 0] 47)) #[.int .i64 0, .slice none 0 0] 47; rw [World.size_alloc] at h; exact h
  have hE' := hE.below bA
  have hF' := hF.below bA
  generalize ((w.alloc (.cells #[.int .i64 0, .slice none 0 0] 47)).alloc (.cells #[.int .i64 0, .slice none 0 0] 47)) = wl at *
  go_loopw [7] (fun iv wv => ∃ k : Nat, k ≤ E.length ∧ k ≤ F.length ∧ iv = .int .i64 ((k : Int) + 1) ∧ Hid (firstUn (E.map Ent.img).reverse (F.map Ent.img).reverse = firstUn ((E.map Ent.img).reverse.drop k) ((F.map Ent.img).reverse.drop k)) ∧ Below wl.heap.size wl wv) (fun iv _ => E.length + 1 - (intOf iv).toNat)
  case atStart => exact ⟨0, Nat.zero_le _, Nat.zero_le _, rfl, rfl, Below.refl _ _⟩
  case round =>
    obtain ⟨k, hk, hk2, rfl, HA, hb⟩ := hrel
    have p1 := kR1.below hb kR1.lt
    have p2 := kR2.below hb kR2.lt
    have r0 := p1.cell 0
    have r1 := p1.cell 1
    have r2 := p2.cell 0
    have r3 := p2.cell 1
    simp only [List.getElem?_toArray, List.getElem?_cons_succ, List.getElem?_cons_zero] at r0 r1 r2 r3
    have l1 := p1.lt
    have l2 := p2.lt
    by_cases hlt : k < E.length ∧ k < F.length
    · obtain ⟨hlt1, hlt2⟩ := hlt
      obtain ⟨g1, rfl, hg1, e0, e1, hS1⟩ := (hE'.below hb).at2 (E.length - 1 - k) (by omega)
      obtain ⟨g2, rfl, hg2, e2, e3, hS2⟩ := (hF'.below hb).at2 (F.length - 1 - k) (by omega)
      have x1 : (k : Int) + 1 ≤ (E.length : Int) := by omega
      have x2 : (k : Int) + 1 ≤ (F.length : Int) := by omega
      have x3 : ((E.length : Int) - ((k : Int) + 1)).toNat = E.length - 1 - k := by omega
      have x4 : ((F.length : Int) - ((k : Int) + 1)).toNat = F.length - 1 - k := by omega
      have HU : Hid (firstUn (E.map Ent.img).reverse (F.map Ent.img).reverse = if (E[E.length - 1 - k].tag, E[E.length - 1 - k].ss) = (F[F.length - 1 - k].tag, F[F.length - 1 - k].ss) then firstUn ((E.map Ent.img).reverse.drop (k + 1)) ((F.map Ent.img).reverse.drop (k + 1)) else some ((E[E.length - 1 - k].tag, E[E.length - 1 - k].ss), (F[F.length - 1 - k].tag, F[F.length - 1 - k].ss))) := by
        refine HA.out.trans ?_
        rw [fu_at _ _ k (by simpa using hlt1) (by simpa using hlt2)]
        simp only [List.getElem_reverse, List.getElem_map, List.length_map]
        rfl
      have Z1 : Hid (E[E.length - 1 - k].ss.length ≤ 3) := HsE.out _ (List.getElem_mem _)
      have Z2 : Hid (F[F.length - 1 - k].ss.length ≤ 3) := HsF.out _ (List.getElem_mem _)
      have hW1 := (hE.1 E[E.length - 1 - k] (List.getElem_mem _)).1
      have hW2 := (hF.1 F[F.length - 1 - k] (List.getElem_mem _)).1
      clear HA
      generalize hx : E[E.length - 1 - k] = ex at *
      generalize hy : F[F.length - 1 - k] = ey at *
      clear hx hy
      obtain ⟨tx, ax, cx, sx⟩ := ex
      obtain ⟨ty, ay, cy, sy⟩ := ey
      simp only at e0 e1 e2 e3 hS1 hS2 hW1 hW2 HU Z1 Z2
      go_wp2_with fail
      have bW := below_two wr (.cells #[.int .i64 tx, .slice ax sx.length cx] 47) (.cells #[.int .i64 ty, .slice ay sy.length cy] 47)
      refine (same_any tx ty ax ay cx cy sx sy _ (hS1.below bW) (hS2.below bW) (Nat.le_trans Z1.out (by omega)) (Nat.le_trans Z2.out (by omega))).mono ?_
      rintro e w1 ⟨rfl, b1⟩
      have b2 := bW.trans (b1.mono bW.size)
      have m1 : Blk w1 wr.heap.size #[.int .i64 tx, .slice ax sx.length cx] 47 := ((Blk.new wr _ _).alloc _).below b1 (by simp only [World.size_alloc]; omega)
      have m2 : Blk w1 (wr.heap.size + 1) #[.int .i64 ty, .slice ay sy.length cy] 47 := by
        have h := Blk.new (wr.alloc (.cells #[.int .i64 tx, .slice ax sx.length cx] 47)) #[.int .i64 ty, .slice ay sy.length cy] 47
        rw [World.size_alloc] at h
        exact h.below b1 (by simp only [World.size_alloc]; omega)
      have n1 := p1.below b2 l1
      have n2 := p2.below b2 l2
      have hb2 := hb.trans (b2.mono hb.size)
      have hS1' := hS1.below b2
      have hS2' := hS2.below b2
      have zz := b2.size
      clear p1 p2 r0 r1 r2 r3 e0 e1 e2 e3 hg1 hg2 b1 bW hE hF
      by_cases hne : (tx, sx) = (ty, sy)
      · have HU2 : Hid (firstUn (E.map Ent.img).reverse (F.map Ent.img).reverse = firstUn ((E.map Ent.img).reverse.drop (k + 1)) ((F.map Ent.img).reverse.drop (k + 1))) := by
          have h := HU.out
          rw [if_pos hne] at h
          exact h
        rw [show alikeP (tx, sx) (ty, sy) = true by simp [alikeP, hne]]
        clear hne HU
        go_wp2
        exact ⟨⟨k + 1, hlt1, hlt2, by go_num, HU2.out, hb2⟩, by simp [intOf]; omega⟩
      · have HU2 : Hid (firstUn (E.map Ent.img).reverse (F.map Ent.img).reverse = some ((tx, sx), (ty, sy))) := by
          have h := HU.out
          rw [if_neg hne] at h
          exact h
        rw [show alikeP (tx, sx) (ty, sy) = false by simp [alikeP]; simpa using hne]
        clear hne HU
        have r0 := n1.cell 0
        have r1 := n1.cell 1
        have r2 := n2.cell 0
        have r3 := n2.cell 1
        have s0 := m1.cell 0
        have s1 := m1.cell 1
        have s2 := m2.cell 0
        have s3 := m2.cell 1
        have f0 := n1.frozen 0
        have f1 := n1.frozen 1
        have f2 := n2.frozen 0
        have f3 := n2.frozen 1
        simp only [List.getElem?_toArray, List.getElem?_cons_succ, List.getElem?_cons_zero] at r0 r1 r2 r3 s0 s1 s2 s3
        have l1' := n1.lt
        have l2' := n2.lt
        go_wp2_with fail
        go_region
        go_wp2
        have bF : Below w.heap.size w ((((w1.setCell ⟨w.heap.size, 0, none⟩ (.int .i64 tx)).setCell ⟨w.heap.size, 1, none⟩ (.slice ax sx.length cx)).setCell ⟨w.heap.size + 1, 0, none⟩ (.int .i64 ty)).setCell ⟨w.heap.size + 1, 1, none⟩ (.slice ay sy.length cy)).drew :=
          (((((bA.trans (hb2.mono bA.size)).setCell (p := ⟨w.heap.size, 0, none⟩) (Nat.le_refl _) _).setCell (p := ⟨w.heap.size, 1, none⟩) (Nat.le_refl _) _).setCell (p := ⟨w.heap.size + 1, 0, none⟩) (Nat.le_succ _) _).setCell (p := ⟨w.heap.size + 1, 1, none⟩) (Nat.le_succ _) _).drew
        have k1 := ((((n1.set 0 (.int .i64 tx)).set 1 (.slice ax sx.length cx)).setOther ⟨w.heap.size + 1, 0, none⟩ (by simp) (.int .i64 ty)).setOther ⟨w.heap.size + 1, 1, none⟩ (by simp) (.slice ay sy.length cy)).drew
        have k2 := ((((n2.setOther ⟨w.heap.size, 0, none⟩ (by simp) (.int .i64 tx)).setOther ⟨w.heap.size, 1, none⟩ (by simp) (.slice ax sx.length cx)).set 0 (.int .i64 ty)).set 1 (.slice ay sy.length cy)).drew
        have r0 := k1.cell 0
        have r1 := k1.cell 1
        have r2 := k2.cell 0
        have r3 := k2.cell 1
        simp only [List.setIfInBounds_toArray, List.set_cons_succ, List.set_cons_zero, List.getElem?_toArray, List.getElem?_cons_succ, List.getElem?_cons_zero] at r0 r1 r2 r3
        clear k1 k2
        generalize ((((w1.setCell ⟨w.heap.size, 0, none⟩ (.int .i64 tx)).setCell ⟨w.heap.size, 1, none⟩ (.slice ax sx.length cx)).setCell ⟨w.heap.size + 1, 0, none⟩ (.int .i64 ty)).setCell ⟨w.heap.size + 1, 1, none⟩ (.slice ay sy.length cy)).drew = wF at *
        refine bodyPost_ret (v := .tuple #[.agg #[.int .i64 tx, .slice ax sx.length cx], .agg #[.int .i64 ty, .slice ay sy.length cy], .bool true]) (by simp [results, Try.results32, go_sem, r0, r1, r2, r3]) rfl ?_
        exact ⟨_, rfl, by rw [HU2.out]; exact ⟨tx, ty, sx, sy, ax, ay, cx, cy, rfl, hW1.below bF, hW2.below bF, Z1.out, Z2.out, rfl⟩, bF⟩
    · have HU2 : Hid (firstUn (E.map Ent.img).reverse (F.map Ent.img).reverse = none) := HA.out.trans (fu_end _ _ k (by simp; omega))
      have f0 := p1.frozen 0
      have f1 := p1.frozen 1
      have f2 := p2.frozen 0
      have f3 := p2.frozen 1
      have bF : Below w.heap.size w ((((wr.setCell ⟨w.heap.size, 0, none⟩ (.int .i64 0)).setCell ⟨w.heap.size, 1, none⟩ (.slice none 0 0)).setCell ⟨w.heap.size + 1, 0, none⟩ (.int .i64 0)).setCell ⟨w.heap.size + 1, 1, none⟩ (.slice none 0 0)) :=
          (((((bA.trans (hb.mono bA.size)).setCell (p := ⟨w.heap.size, 0, none⟩) (Nat.le_refl _) _).setCell (p := ⟨w.heap.size, 1, none⟩) (Nat.le_refl _) _).setCell (p := ⟨w.heap.size + 1, 0, none⟩) (Nat.le_succ _) _).setCell (p := ⟨w.heap.size + 1, 1, none⟩) (Nat.le_succ _) _)
      have k1 := ((((p1.set 0 (.int .i64 0)).set 1 (.slice none 0 0)).setOther ⟨w.heap.size + 1, 0, none⟩ (by simp) (.int .i64 0)).setOther ⟨w.heap.size + 1, 1, none⟩ (by simp) (.slice none 0 0))
      have k2 := ((((p2.setOther ⟨w.heap.size, 0, none⟩ (by simp) (.int .i64 0)).setOther ⟨w.heap.size, 1, none⟩ (by simp) (.slice none 0 0)).set 0 (.int .i64 0)).set 1 (.slice none 0 0))
      have q0 := k1.cell 0
      have q1 := k1.cell 1
      have q2 := k2.cell 0
      have q3 := k2.cell 1
      simp only [List.setIfInBounds_toArray, List.set_cons_succ, List.set_cons_zero, List.getElem?_toArray, List.getElem?_cons_succ, List.getElem?_cons_zero] at q0 q1 q2 q3
      clear k1 k2
      by_cases hlt1 : k < E.length
      · have x1 : (k : Int) + 1 ≤ (E.length : Int) := by omega
        have x2 : ¬ (k : Int) + 1 ≤ (F.length : Int) := by omega
        clear hlt
        go_wp2
        generalize ((((wr.setCell ⟨w.heap.size, 0, none⟩ (.int .i64 0)).setCell ⟨w.heap.size, 1, none⟩ (.slice none 0 0)).setCell ⟨w.heap.size + 1, 0, none⟩ (.int .i64 0)).setCell ⟨w.heap.size + 1, 1, none⟩ (.slice none 0 0)) = wF at *
        refine bodyPost_ret (v := .tuple #[.agg #[.int .i64 0, .slice none 0 0], .agg #[.int .i64 0, .slice none 0 0], .bool false]) (by simp [results, Try.results32, go_sem, q0, q1, q2, q3]) rfl ?_
        exact ⟨_, rfl, by rw [HU2.out]; exact told3_none _, bF⟩
      · have x1 : ¬ (k : Int) + 1 ≤ (E.length : Int) := by omega
        clear hlt
        go_wp2
        generalize ((((wr.setCell ⟨w.heap.size, 0, none⟩ (.int .i64 0)).setCell ⟨w.heap.size, 1, none⟩ (.slice none 0 0)).setCell ⟨w.heap.size + 1, 0, none⟩ (.int .i64 0)).setCell ⟨w.heap.size + 1, 1, none⟩ (.slice none 0 0)) = wF at *
        refine bodyPost_ret (v := .tuple #[.agg #[.int .i64 0, .slice none 0 0], .agg #[.int .i64 0, .slice none 0 0], .bool false]) (by simp [results, Try.results32, go_sem, q0, q1, q2, q3]) rfl ?_
        exact ⟨_, rfl, by rw [HU2.out]; exact told3_none _, bF⟩
end Go.Proofs.Ytcpjcjonlkgblaa
