import Derived.Test.YtpofgnlkhkednaaGreatDoorM12
import Derived.Test.YtpofgnlkhkednaaGreatDoorM13
namespace Go.Proofs.YtpofgnlkhkednaaGreatDoor
open Go.RowKit
set_option linter.unusedVariables false
set_option linter.unusedSimpArgs false
set_option maxRecDepth 20000
set_option maxHeartbeats 8000000
def etk : List PEv → List Key
 | [] => []
 | .tok s :: r => s :: etk r
 | .up :: r => etk r
 | .down :: r => etk r
 | .far :: r => etk r
 | .odd :: r => etk r
theorem etk_app : ∀ a b : List PEv, etk (a ++ b) = etk a ++ etk b
 | [], b => rfl
 | e :: a, b => by
  have ih := etk_app a b;cases e <;> simp [etk, ih]
def nt : List PEv → Int
 | [] => 0
 | .up :: r => 1 + nt r
 | .down :: r => nt r - 1
 | .tok _ :: r => nt r
 | .far :: r => nt r
 | .odd :: r => nt r
theorem nt_app : ∀ a b : List PEv, nt (a ++ b) = nt a + nt b
 | [], b => by simp [nt]
 | e :: a, b => by
  have ih := nt_app a b;cases e <;> simp [nt, ih] <;> omega
def lvl : Int → List PEv → Prop
 | _, [] => True
 | lv, .up :: r => lv < 32 ∧ lvl (lv + 1) r
 | lv, .down :: r => lvl (lv - 1) r
 | lv, .tok _ :: r => lvl lv r
 | _, .far :: _ => False
 | lv, .odd :: r => lvl lv r
theorem lvl_app : ∀ (a b : List PEv) (lv : Int), lvl lv (a ++ b) ↔ lvl lv a ∧ lvl (lv + nt a) b
 | [], b, lv => by simp [lvl, nt]
 | e :: a, b, lv => by
  cases e with
  | tok s => exact lvl_app a b lv
  | odd => exact lvl_app a b lv
  | far => simp [lvl]
  | up =>
   have ih := lvl_app a b (lv + 1);show (lv < 32 ∧ lvl (lv + 1) (a ++ b)) ↔ (lv < 32 ∧ lvl (lv + 1) a) ∧ lvl (lv + (1 + nt a)) b;rw [ih, show lv + (1 + nt a) = lv + 1 + nt a by omega, and_assoc]
  | down =>
   have ih := lvl_app a b (lv - 1);show lvl (lv - 1) (a ++ b) ↔ lvl (lv - 1) a ∧ lvl (lv + (nt a - 1)) b;rw [ih, show lv + (nt a - 1) = lv - 1 + nt a by omega]
theorem etk_tkn (s : Key) : etk (tkn s) = [s] := rfl
theorem etk_up : etk upV = [] := rfl
theorem etk_down : etk downV = [] := rfl
theorem nt_tkn (s : Key) : nt (tkn s) = 0 := rfl
theorem nt_up : nt upV = 1 := rfl
theorem nt_down : nt downV = -1 := rfl
theorem lvl_tkn (lv : Int) (s : Key) : lvl lv (tkn s) ↔ True := Iff.rfl
theorem lvl_up (lv : Int) : lvl lv upV ↔ lv < 32 := by simp [lvl, upV]
theorem lvl_down (lv : Int) : lvl lv downV ↔ True := by simp [lvl, downV]
theorem lvl_nil (lv : Int) : lvl lv [] ↔ True := Iff.rfl
theorem lvl_inn {lv : Int} {o c : Key} {b : List PEv} (hb : nt b = 0) : lvl lv (innV o b c) ↔ lv < 32 ∧ lvl (lv + 1) b := by
 unfold innV;simp only [lvl_app, nt_app, nt_up, nt_tkn, hb, lvl_up, lvl_tkn, lvl_down, and_true];rw [show lv + (1 + 0) = lv + 1 by omega]
theorem etk_inn (o c : Key) (b : List PEv) : etk (innV o b c) = o :: (etk b ++ [c]) := by
 unfold innV;simp [etk_app, etk_up, etk_tkn, etk_down]
theorem nt_inn {o c : Key} {b : List PEv} (hb : nt b = 0) : nt (innV o b c) = 0 := by
 unfold innV;simp only [nt_app, nt_up, nt_tkn, nt_down, hb]; rfl
theorem brk_inn (r op : Int) (b : List PEv) : brkV r op b = if holdI op < r then innV [40] b [41] else b := by
 unfold brkV innV
 split
 ·simp [List.append_assoc]
 ·rfl
theorem nt_brk {r op : Int} {b : List PEv} (hb : nt b = 0) : nt (brkV r op b) = 0 := by
 rw [brk_inn]
 split
 ·exact nt_inn hb
 ·exact hb
theorem run_tx : ∀ (l : List PEv) (p : PS), p.tx ≠ [] → (p.run l).tx = p.tx ++ jn (etk l)
 | [], p, h => by simp [PS.run_nil, etk, jn]
 | e :: l, p, h => by
  rw [PS.run_cons]
  cases e with
  | tok s =>
   have hs : (p.step (.tok s)).tx = p.tx ++ 32 :: s := by
    show sayK p.tx s = _;rw [sayK, if_neg h]; simp
   rw [run_tx l _ (by rw [hs]; simp), hs];simp [etk, jn]
  | up => exact run_tx l _ h
  | down => exact run_tx l _ h
  | far => exact run_tx l _ h
  | odd => exact run_tx l _ h
theorem run_mono : ∀ (l : List PEv) (p : PS), p.mx ≤ (p.run l).mx ∧ (p.fr = true → (p.run l).fr = true)
 | [], p => ⟨Int.le_refl _, id⟩
 | e :: l, p => by
  rw [PS.run_cons];obtain ⟨h1, h2⟩ := run_mono l (p.step e)
  cases e with
  | tok s => exact ⟨h1, h2⟩
  | up => exact ⟨Int.le_trans (by show p.mx ≤ max p.mx _; omega) h1, h2⟩
  | down => exact ⟨h1, h2⟩
  | far => exact ⟨h1, fun _ => h2 rfl⟩
  | odd => exact ⟨h1, h2⟩
theorem run_lvl : ∀ (l : List PEv) (p : PS), (p.run l).fr = false → (p.run l).mx ≤ 32 → lvl p.lv l
 | [], _, _, _ => trivial
 | e :: l, p, h1, h2 => by
  rw [PS.run_cons] at h1 h2;have ih := run_lvl l (p.step e) h1 h2;obtain ⟨m1, m2⟩ := run_mono l (p.step e)
  cases e with
  | tok s => exact ih
  | up =>
   refine ⟨?_, ih⟩;have : max p.mx (p.lv + 1) ≤ 32 := Int.le_trans m1 h2;omega
  | down => exact ih
  | far =>
   have := m2 rfl;rw [h1] at this; cases this
  | odd => exact ih
theorem lvl_run : ∀ (l : List PEv) (p : PS), lvl p.lv l → p.mx ≤ 32 → (p.run l).mx ≤ 32 ∧ (p.run l).fr = p.fr
 | [], _, _, h => ⟨h, rfl⟩
 | e :: l, p, h1, h2 => by
  rw [PS.run_cons]
  cases e with
  | tok s => exact lvl_run l (p.step (.tok s)) h1 h2
  | up =>
   obtain ⟨h1, h3⟩ := h1;exact lvl_run l (p.step .up) h3 (by show max p.mx (p.lv + 1) ≤ 32; omega)
  | down => exact lvl_run l (p.step .down) h1 h2
  | far => exact h1.elim
  | odd => exact lvl_run l (p.step .odd) h1 h2
def Rd {α : Type} (F : Nat → PM α) (ts : List Key) (lv : Int) (x : α) (k : List Key) : Prop := Rv F (.ok (stOf ts lv)) x (.ok (stOf k lv))
theorem rv_to {α : Type} {F F' : Nat → PM α} {S S' : ES} {x : α} (e : ∀ n, F n = F' n) (h : Rv F' S x S') : Rv F S x S' := (funext e : F = F') ▸ h
theorem rv_pur {α : Type} (x : α) (S : ES) : Rv (fun _ => pur x) S x S := Rv.of (Rel.pur x S)
theorem stOf_now (ts : List Key) (lv lv' : Int) : (stOf ts lv).now = (stOf ts lv').now := by cases ts <;> rfl
theorem rd_yes {s : Key} {k : List Key} {lv : Int} (h : tkOf s = .fixed s) : Rv (fun _ => isT s) (.ok (stOf (s :: k) lv)) true (.ok (stOf (s :: k) lv)) :=
 Rv.of (Rel.of_ok (by
  show Except.ok (decide (tkOf s = .fixed s), _) = _
  rw [decide_eq_true h]))
theorem rd_no {s : Key} {ts : List Key} {lv : Int} (h : (stOf ts lv).now ≠ .fixed s) : Rv (fun _ => isT s) (.ok (stOf ts lv)) false (.ok (stOf ts lv)) :=
 Rv.of (Rel.of_ok (by
  show Except.ok (decide ((stOf ts lv).now = .fixed s), _) = _
  rw [decide_eq_false h]))
theorem rd_next {s : Key} {k : List Key} {lv : Int} (h : Gs k) : Rv (fun _ => nextT) (.ok (stOf (s :: k) lv)) () (.ok (stOf k lv)) := Rv.of (Rel.of_ok (next_st h))
theorem rd_take {s : Key} {k : List Key} {lv : Int} (e : tkOf s = .fixed s) (h : Gs k) : Rv (fun _ => takeT s) (.ok (stOf (s :: k) lv)) () (.ok (stOf k lv)) :=
 Rv.of (Rel.of_ok (by
  show (if tkOf s = .fixed s then nextT (stOf (s :: k) lv) else _) = _;rw [if_pos e]
  exact next_st h))
theorem stOf_lv (ts : List Key) (lv lv' : Int) : ({ stOf ts lv with lv := lv' } : St) = stOf ts lv' := by cases ts <;> rfl
theorem stOf_lv2 (ts : List Key) (lv : Int) : (stOf ts lv).lv = lv := by cases ts <;> rfl
theorem rd_deep {ts : List Key} {lv : Int} (h0 : 0 ≤ lv) (h : lv < 32) : Rv (fun _ => deeperT) (.ok (stOf ts lv)) () (.ok (stOf ts (lv + 1))) :=
 Rv.of (Rel.of_ok (by
  unfold deeperT
  rw [stOf_lv2, if_neg (by omega), stOf_lv, show wrap64 (lv + 1) = lv + 1 by unfold wrap64; omega]))
theorem rd_upT {ts : List Key} {lv : Int} (h0 : 0 ≤ lv) (h : lv < 32) : Rv (fun _ => upT) (.ok (stOf ts (lv + 1))) () (.ok (stOf ts lv)) :=
 Rv.of (Rel.of_ok (by
  unfold upT
  rw [stOf_lv2, stOf_lv, show wrap64 (lv + 1 - 1) = lv by unfold wrap64; omega]))
theorem rd_name {s : Key} {k : List Key} {lv : Int} (e : nmB s = true) (h : Gs k) : Rv (fun _ => nameT) (.ok (stOf (s :: k) lv)) s (.ok (stOf k lv)) :=
 Rv.of (Rel.of_ok (by
  have hn : (stOf (s :: k) lv).now = .name s := name_of e;unfold nameT;simp only [hn];show bnd nextT (fun _ => pur s) (stOf (s :: k) lv) = _;rw [bnd, next_st h]
  rfl))
theorem rd_open {s : Key} {k : List Key} {lv : Int} (e : tkOf s = .fixed s) (h : Gs k) (h0 : 0 ≤ lv) (hl : lv < 32) : Rv (fun _ => openT s) (.ok (stOf (s :: k) lv)) () (.ok (stOf k (lv + 1))) :=
 (rd_yes e).bind ((rv_to (F' := fun _ => deeperT) (fun _ => if_pos rfl) (rd_deep h0 hl)).bind (rd_take e h))
theorem rd_shut {s : Key} {k : List Key} {lv : Int} (e : tkOf s = .fixed s) (h : Gs k) (h0 : 0 ≤ lv) (hl : lv < 32) : Rv (fun _ => shutT s) (.ok (stOf (s :: k) (lv + 1))) () (.ok (stOf k lv)) :=
 (rd_take e h).bind (rd_upT h0 hl)
theorem rd_room {n m : Int} {S : ES} (h : n < m) : Rv (fun _ => roomT n m) S () S := rv_to (F' := fun _ => pur ()) (fun _ => if_neg (by omega)) (rv_pur _ _)
theorem pick_now (l : List (Int × Key)) {σ τ : St} (h : σ.now = τ.now) : pickI l (.ok σ) = pickI l (.ok τ) := by
 induction l with
 | nil => rfl
 | cons a l ih =>
  obtain ⟨k, s⟩ := a;show (if decide (σ.now = .fixed s) then k else _) = if decide (τ.now = .fixed s) then k else _
  rw [h, ih]
theorem rd_pick {l : List (Int × Key)} {ts : List Key} {lv : Int} : Rv (fun _ => pickT l) (.ok (stOf ts lv)) (pickI l (.ok (stOf ts lv))) (.ok (stOf ts lv)) := Rv.of (Rel.of_ok rfl)
def stop (r : Int) (k : List Key) : Prop := (∀ r', r ≤ r' → r' ≤ 6 → pickI (operW r') (.ok (stOf k 0)) = 0) ∧ (stOf k 0).now ≠ .fixed [91] ∧ (stOf k 0).now ≠ .fixed [40]
theorem stop.mono {r r2 : Int} {k : List Key} (h : stop r k) (q : r ≤ r2) : stop r2 k := ⟨fun r' h1 h2 => h.1 r' (by omega) h2, h.2⟩
theorem stop.pick {r : Int} {k : List Key} (h : stop r k) (q : r ≤ 6) (lv : Int) : pickI (operW r) (.ok (stOf k lv)) = 0 := (pick_now _ (stOf_now k lv 0)).trans (h.1 r (Int.le_refl _) q)
theorem stop.no {r : Int} {k : List Key} (h : stop r k) (lv : Int) : (stOf k lv).now ≠ .fixed [91] ∧ (stOf k lv).now ≠ .fixed [40] := by rw [stOf_now k lv 0]; exact h.2
theorem six {P : Int → Prop} (h : ∀ r ∈ [(1 : Int), 2, 3, 4, 5, 6], P r) : ∀ r, 1 ≤ r → r ≤ 6 → P r := fun r h1 h2 => h r (by
 rcases (show r = 1 ∨ r = 2 ∨ r = 3 ∨ r = 4 ∨ r = 5 ∨ r = 6 by omega) with rfl | rfl | rfl | rfl | rfl | rfl <;> simp)
theorem stop_of {s : Key} {k : List Key} {r : Int} (h : (∀ r ∈ [(1 : Int), 2, 3, 4, 5, 6], pickI (operW r) (.ok ⟨[], tkOf s, 0⟩) = 0) ∧ tkOf s ≠ .fixed [91] ∧ tkOf s ≠ .fixed [40]) (h1 : 1 ≤ r) : stop r (s :: k) := ⟨fun r' q1 q2 =>
 (pick_now _ (show (stOf (s :: k) 0).now = (⟨[], tkOf s, 0⟩ : St).now from rfl)).trans (six (P := fun r => pickI (operW r) (.ok ⟨[], tkOf s, 0⟩) = 0) h.1 r' (by omega) q2), h.2⟩
theorem stop_41 {k : List Key} {r : Int} (h : 1 ≤ r) : stop r ([41] :: k) := stop_of (by decide) h
theorem stop_44 {k : List Key} {r : Int} (h : 1 ≤ r) : stop r ([44] :: k) := stop_of (by decide) h
theorem stop_46 {k : List Key} {r : Int} (h : 1 ≤ r) : stop r ([46] :: k) := stop_of (by decide) h
theorem stop_59 {k : List Key} {r : Int} (h : 1 ≤ r) : stop r ([59] :: k) := stop_of (by decide) h
theorem stop_93 {k : List Key} {r : Int} (h : 1 ≤ r) : stop r ([93] :: k) := stop_of (by decide) h
theorem stop_123 {k : List Key} {r : Int} (h : 1 ≤ r) : stop r ([123] :: k) := stop_of (by decide) h
theorem stop_gas {k : List Key} {r : Int} (h : 1 ≤ r) : stop r (kGas :: k) := stop_of (by decide) h
theorem twos_of {op : Int} (h : isTwo op = true) : op ∈ [(6 : Int), 7, 9, 10, 11, 12, 13, 14, 15, 16, 17, 18, 19] := by
 unfold isTwo at h;have h := of_decide_eq_true h;rcases (show op = 6 ∨ op = 7 ∨ op = 9 ∨ op = 10 ∨ op = 11 ∨ op = 12 ∨ op = 13 ∨ op = 14 ∨ op = 15 ∨ op = 16 ∨ op = 17 ∨ op = 18 ∨ op = 19 by omega) with rfl | rfl | rfl | rfl | rfl | rfl | rfl | rfl | rfl | rfl | rfl | rfl | rfl <;> simp
theorem two_word {op : Int} (h : isTwo op = true) : (opWord op ∈ wordL ∨ opWord op ∈ signL) ∧ holdI op ≠ 3 ∧ holdI op ≤ 6 := by
 have : ∀ op ∈ [(6 : Int), 7, 9, 10, 11, 12, 13, 14, 15, 16, 17, 18, 19], (opWord op ∈ wordL ∨ opWord op ∈ signL) ∧ holdI op ≠ 3 ∧ holdI op ≤ 6 := by decide
 exact this op (twos_of h)
theorem two_pick {op : Int} (h : isTwo op = true) : ∀ r, 1 ≤ r → r ≤ 6 → pickI (operW r) (.ok ⟨[], tkOf (opWord op), 0⟩) = if holdI op = r then op else 0 := by
 have : ∀ op ∈ [(6 : Int), 7, 9, 10, 11, 12, 13, 14, 15, 16, 17, 18, 19], ∀ r ∈ [(1 : Int), 2, 3, 4, 5, 6], pickI (operW r) (.ok ⟨[], tkOf (opWord op), 0⟩) = if holdI op = r then op else 0 := by decide
 exact six (this op (twos_of h))
theorem stop_op {op r : Int} {k : List Key} (h : isTwo op = true) (hr : holdI op < r) : stop r (opWord op :: k) := ⟨fun r' q1 q2 => by
 have := hold_rng op
 rw [pick_now _ (show (stOf (opWord op :: k) 0).now = (⟨[], tkOf (opWord op), 0⟩ : St).now from rfl), two_pick h r' (by omega) q2, if_neg (by omega)], by
 have : ∀ op ∈ [(6 : Int), 7, 9, 10, 11, 12, 13, 14, 15, 16, 17, 18, 19], tkOf (opWord op) ≠ .fixed [91] ∧ tkOf (opWord op) ≠ .fixed [40] := by decide
 exact this op (twos_of h)⟩
theorem loop_stop {r : Int} {k : List Key} {lv : Int} {x : EV} (h : stop r k) (q : r ≤ 6) : Rd (fun n => loopT n r x) k lv x k := by
 refine Rv.succ (rv_to (F' := fun n => bnd (pickT (operW r)) fun op => if op = 0 then pur x else bnd nextT fun _ => bnd (exprT n (r + 1)) fun y => if r = 4 then pur (exP op 0 [] [x, y]) else loopT n r (exP op 0 [] [x, y])) (fun n => by rw [loopT]) ?_);refine rd_pick.bind (rv_to (F' := fun n => pur x) (fun n => ?_) (rv_pur _ _));rw [h.pick q lv, if_pos rfl]
theorem loop_step {op r : Int} {ts k : List Key} {lv : Int} {x y : EV} (h : isTwo op = true) (hr : holdI op = r) (h4 : r ≠ 4) (hg : Gs ts) (hy : Rd (fun n => exprT n (r + 1)) ts lv y k) : Kn (fun n => loopT n r x) (.ok (stOf (opWord op :: ts) lv)) (fun n => loopT n r (exP op 0 [] [x, y])) (.ok (stOf k lv)) := by
 intro z S' g;have hrg := hold_rng op;have ho : op ≠ 0 := by intro q; subst q; exact absurd h (by decide)
 have hp : pickI (operW r) (.ok (stOf (opWord op :: ts) lv)) = op := by
  rw [pick_now _ (show (stOf (opWord op :: ts) lv).now = (⟨[], tkOf (opWord op), 0⟩ : St).now from rfl), two_pick h r (by omega) (by have := (two_word h).2.2; omega), if_pos hr]
 refine Rv.succ (rv_to (F' := fun n => bnd (pickT (operW r)) fun op => if op = 0 then pur x else bnd nextT fun _ => bnd (exprT n (r + 1)) fun y => if r = 4 then pur (exP op 0 [] [x, y]) else loopT n r (exP op 0 [] [x, y])) (fun n => by rw [loopT]) ?_);refine rd_pick.bind (rv_to (F' := fun n => bnd nextT fun _ => bnd (exprT n (r + 1)) fun y => loopT n r (exP op 0 [] [x, y])) (fun n => ?_) ((rd_next hg).bind (hy.bind g)));rw [hp, if_neg ho];simp only [if_neg h4]
theorem loop_4 {op : Int} {ts k : List Key} {lv : Int} {x y : EV} (h : isTwo op = true) (hr : holdI op = 4) (hg : Gs ts) (hy : Rd (fun n => exprT n 5) ts lv y k) : Rd (fun n => loopT n 4 x) (opWord op :: ts) lv (exP op 0 [] [x, y]) k := by
 have ho : op ≠ 0 := by intro q; subst q; exact absurd h (by decide)
 have hp : pickI (operW 4) (.ok (stOf (opWord op :: ts) lv)) = op := by
  rw [pick_now _ (show (stOf (opWord op :: ts) lv).now = (⟨[], tkOf (opWord op), 0⟩ : St).now from rfl), two_pick h 4 (by omega) (by omega), if_pos hr]
 refine Rv.succ (rv_to (F' := fun n => bnd (pickT (operW 4)) fun op => if op = 0 then pur x else bnd nextT fun _ => bnd (exprT n 5) fun y => pur (exP op 0 [] [x, y])) (fun n => by rw [loopT]; rfl) ?_);refine rd_pick.bind (rv_to (F' := fun n => bnd nextT fun _ => bnd (exprT n 5) fun y => pur (exP op 0 [] [x, y])) (fun n => ?_) ((rd_next hg).bind (hy.bind (rv_pur _ _))));rw [hp, if_neg ho]
theorem climb {r : Int} {ts k : List Key} {lv : Int} {x : EV} (h6 : r ≤ 6) (hn : r = 3 → (stOf ts lv).now ≠ .fixed kNot) (hs : stop r k) (h : Rd (fun n => exprT n (r + 1)) ts lv x k) : Rd (fun n => exprT n r) ts lv x k := by
 by_cases h3 : r = 3
 ·subst h3;refine Rv.succ (rv_to (F' := fun n => bnd (isT kNot) fun c => if c then notT n else exprT n 4) (fun n => by rw [exprT, if_neg (by decide), if_pos rfl]; rfl) ?_);exact (rd_no (hn rfl)).bind (rv_to (F' := fun n => exprT n 4) (fun n => if_neg (by decide)) h)
 ·refine Rv.succ (rv_to (F' := fun n => bnd (exprT n (r + 1)) fun x => loopT n r x) (fun n => by rw [exprT, if_neg (by omega), if_neg h3]) ?_);exact h.bind (loop_stop hs h6)
theorem down {r : Int} {ts k : List Key} {lv : Int} {x : EV} (hn : (stOf ts lv).now ≠ .fixed kNot) (hs : stop r k) : ∀ (d : Nat), r + d ≤ 7 → Rd (fun n => exprT n (r + d)) ts lv x k → Rd (fun n => exprT n r) ts lv x k
 | 0, _, h => by
  have e : r + ((0 : Nat) : Int) = r := by omega
  rw [e] at h; exact h
 | d + 1, hd, h => down hn hs d (by omega) (climb (by omega) (fun _ => hn) (hs.mono (by omega)) (by
   have e : r + ((d + 1 : Nat) : Int) = r + d + 1 := by omega
   rw [e] at h; exact h))
theorem downs {r h : Int} {ts k : List Key} {lv : Int} {x : EV} (hn : 3 < h → r ≤ 3 → (stOf ts lv).now ≠ .fixed kNot) (hs : stop r k) (hr : r ≤ h) (h7 : h ≤ 7) (g : Rd (fun n => exprT n h) ts lv x k) : Rd (fun n => exprT n r) ts lv x k := by
 by_cases h3 : 3 < h ∧ r ≤ 3
 ·exact down (hn h3.1 h3.2) hs (h - r).toNat (by omega) (by
   have e : r + ((h - r).toNat : Int) = h := by omega
   rw [e]; exact g)
 ·clear hn;obtain ⟨d, hd⟩ : ∃ d : Nat, h = r + d := ⟨(h - r).toNat, by omega⟩;subst hd
  induction d with
  | zero =>
   have e : r + ((0 : Nat) : Int) = r := by omega
   rw [e] at g; exact g
  | succ d ih =>
   refine ih (by omega) (by omega) ?_ (by omega);refine climb (by omega) (fun q => absurd q (by omega)) (hs.mono (by omega)) ?_;have e : r + ((d + 1 : Nat) : Int) = r + d + 1 := by omega
   rw [e] at g; exact g
end Go.Proofs.YtpofgnlkhkednaaGreatDoor
