import Derived.Test.YthhpkjmhcolgfaaGreatDoorM10
namespace Go.Proofs.YthhpkjmhcolgfaaGreatDoor
open Go.RowKit
set_option linter.unusedVariables false
set_option linter.unusedSimpArgs false
set_option maxRecDepth 20000
set_option maxHeartbeats 8000000
theorem rsmall_any (c : UInt8) (w : World) : Calls Tryz.prog 41 #[.int .u8 c.toNat] w fun e w' => e = .returned (.bool (isL c)) ∧ w = w' := by
 by_cases h1 : 97 ≤ c.toNat
 ·have h1' : (97 : Int) ≤ (c.toNat : Int) := by omega
  go_enter Tryz.func41, Tryz.ntmps41
  go_wp2
  go_ret
  exact ⟨by simp [isL, h1]; omega, rfl⟩
 ·have h1' : ¬ (97 : Int) ≤ (c.toNat : Int) := by omega
  go_enter Tryz.func41, Tryz.ntmps41
  go_wp2
  go_ret
  exact ⟨by simp [isL, h1], rfl⟩
theorem rdigit_any (c : UInt8) (w : World) : Calls Tryz.prog 45 #[.int .u8 c.toNat] w fun e w' => e = .returned (.bool (isD c)) ∧ w = w' := by
 by_cases h1 : 48 ≤ c.toNat
 ·have h1' : (48 : Int) ≤ (c.toNat : Int) := by omega
  go_enter Tryz.func45, Tryz.ntmps45
  go_wp2
  go_ret
  exact ⟨by simp [isD, h1]; omega, rfl⟩
 ·have h1' : ¬ (48 : Int) ≤ (c.toNat : Int) := by omega
  go_enter Tryz.func45, Tryz.ntmps45
  go_wp2
  go_ret
  exact ⟨by simp [isD, h1], rfl⟩
theorem rgoes_any (c : UInt8) (w : World) : Calls Tryz.prog 42 #[.int .u8 c.toNat] w fun e w' => e = .returned (.bool (goes c)) ∧ w = w' := by
 have K1 := fun w => rsmall_any c w;have K2 := fun w => rdigit_any c w
 go_enter Tryz.func42, Tryz.ntmps42
 go_wp2_with fail
 refine (K1 _).mono ?_;rintro e w1 ⟨rfl, rfl⟩
 cases h1 : isL c with
 | true =>
  go_wp2
  go_ret
  exact ⟨by simp [goes, h1], rfl⟩
 | false =>
  go_wp2_with fail
  refine (K2 _).mono ?_;rintro e w1 ⟨rfl, rfl⟩
  cases h2 : isD c with
  | true =>
   go_wp2
   go_ret
   exact ⟨by simp [goes, h1, h2], rfl⟩
  | false =>
   go_wp2
   go_ret
   exact ⟨by simp [goes, h1, h2]; exact int_beq _ _, rfl⟩
theorem RowG.at_ {lo sz x n c : Nat} {e : TypeId} {es : List (List Fld)} {w : World} (r : RowG lo e sz (.slice (some ⟨x, 0, none⟩) n c) es w) : n = es.length ∧ lo ≤ x ∧ x < w.heap.size ∧ ∀ j u, (flatV es)[j]? = some u → w.cell? ⟨x, j, none⟩ = some u := by
 rcases r.own.2 with ⟨e, _⟩ | ⟨g, cap, cur, e1, e2, e3, e4, e5, e6, e7⟩
 ·cases e
 ·injection e1 with e1 q1 q2
  injection e1 with e1
  injection e1 with e1 _ _
  subst e1;refine ⟨q1, e2, (Array.getElem?_eq_some_iff.1 e3).1, fun j u hj => ?_⟩
  have : cur.toList[j]? = some u := by
   rw [← e7] at hj;rw [List.getElem?_take] at hj
   split at hj
   ·exact hj
   ·cases hj
  simp [World.cell?, e3]
  simpa using this
section
variable {P : Program} {ops : Array Oper} {Q : Exit → Act → World → Prop} {a : Act} {w : World} {rest : List Oper} {o : Oper} {N : Nat} {L : List (Nat × Value)}
theorem sw_at (F : Fm N L a) (sz : Nat) {i : Nat} {x y : Operand} {t e : TypeId} {rb ro n c k : Nat} (h : Is o (some i) (.indexAddr t x y)) (hx : opv L x = some (.slice (some ⟨rb, ro, none⟩) n c)) (hy : opv L y = some (.int .i64 k)) (hk : k < n) (hu : P.underlying t = some (.slice e)) (hs : (P.info? e).map (·.size) = some sz) (hi : Nat.blt i N = true) (K : ∀ a', Fm N ((i, .pointer (some ⟨rb, ro + k * sz, none⟩)) :: L) a' → wpList P ops Q rest a' w) : wpList P ops Q (o :: rest) a w :=
 ol_at h.2.2 h.2.1 (F.ev hx) (F.ev hy) hk hu hs (by rw [h.1]; exact K _ (F.put hi))
theorem sw_not (F : Fm N L a) {i t : Nat} {x : Operand} {b : Bool} (h : Is o (some i) (.unOp .not t x)) (hx : opv L x = some (.bool b)) (hi : Nat.blt i N = true) (K : ∀ a', Fm N ((i, .bool (!b)) :: L) a' → wpList P ops Q rest a' w) : wpList P ops Q (o :: rest) a w :=
 sw_val F h.1 h.2.2 hi (by unfold execOp; rw [h.2.1]; simp [F.ev hx, Op.unary]) K
end
def WordsAt (x : Nat) (ws : List Key) (w : World) : Prop := x < w.heap.size ∧ ∀ j s, ws[j]? = some s → w.cell? ⟨x, j, none⟩ = some (.string (str s))
theorem flat_words : ∀ (ws : List Key), flatV (ws.map fun s => [Fld.s s]) = ws.map fun s => Value.string (str s)
 | [] => rfl
 | s :: r => by
  show [Fld.s s].map Fld.val ++ flatV (r.map fun s => [Fld.s s]) = _;rw [flat_words r];rfl
theorem rpWords_any (wO : World) : Calls Tryz.prog 43 ([] : List Value).toArray wO fun e w' => ∃ x, e = .returned (.slice (some ⟨x, 0, none⟩) 28 28) ∧ Below wO.heap.size wO w' ∧ wO.heap.size ≤ x ∧ WordsAt x wordL w' := by
 have M : Mm (fun (_ : Unit) _ => True) (fun _ => False) wO [] () wO := Mm.begin trivial (fun _ q => q.elim) (fun _ _ _ _ _ => trivial);refine sw_fn Tryz.func43 rfl 2 Tryz.ntmps43 rfl fun A F => ?_;refine sq (rg ?_);refine as1 F fun A F=>?_;refine en (sq (rg ?_));refine sw_mkrow (ety := 9) (sz := 1) (z := .string ⟨#[]⟩) F M _ (wordL.map fun s => [Fld.s s]) ⟨rfl, rfl, rfl⟩ rfl (by kernel_rfl) (by kernel_rfl) rfl (by kernel_rfl) rfl ?_ ?_ rfl fun x1 A w F M => ?_
 ·intro g hg;obtain ⟨s, _, rfl⟩ := List.mem_map.1 hg;exact ⟨rfl, lie_cons trivial (lie_nil _ _)⟩
 ·intro i f b hf hm g hg;obtain ⟨s, _, rfl⟩ := List.mem_map.1 hg;intro y hy;rw [List.mem_singleton.1 hy];trivial
 refine as1 F fun A F=>?_;refine en (wp_ret ?_);repeat first|refine tr ?_|refine br ?_
 have r := M.mem.at_ 0 _ rfl;have r2 := RowG.at_ r;exact sw_rettmp F Tryz.results43 rfl ⟨_, rfl, M.but.below (Nat.le_refl _) fun _ q => q.elim, r2.2.1, r2.2.2.1, fun j s hj => r2.2.2.2 j _ (by rw [show (_ : List (List Fld)) = wordL.map (fun s => [Fld.s s]) from rfl, flat_words, List.getElem?_map, hj]; rfl)⟩
theorem rpSigns_any (wO : World) : Calls Tryz.prog 46 ([] : List Value).toArray wO fun e w' => ∃ x, e = .returned (.slice (some ⟨x, 0, none⟩) 23 23) ∧ Below wO.heap.size wO w' ∧ wO.heap.size ≤ x ∧ WordsAt x signL w' := by
 have M : Mm (fun (_ : Unit) _ => True) (fun _ => False) wO [] () wO := Mm.begin trivial (fun _ q => q.elim) (fun _ _ _ _ _ => trivial);refine sw_fn Tryz.func46 rfl 2 Tryz.ntmps46 rfl fun A F => ?_;refine sq (rg ?_);refine as1 F fun A F=>?_;refine en (sq (rg ?_));refine sw_mkrow (ety := 9) (sz := 1) (z := .string ⟨#[]⟩) F M _ (signL.map fun s => [Fld.s s]) ⟨rfl, rfl, rfl⟩ rfl (by kernel_rfl) (by kernel_rfl) rfl (by kernel_rfl) rfl ?_ ?_ rfl fun x1 A w F M => ?_
 ·intro g hg;obtain ⟨s, _, rfl⟩ := List.mem_map.1 hg;exact ⟨rfl, lie_cons trivial (lie_nil _ _)⟩
 ·intro i f b hf hm g hg;obtain ⟨s, _, rfl⟩ := List.mem_map.1 hg;intro y hy;rw [List.mem_singleton.1 hy];trivial
 refine as1 F fun A F=>?_;refine en (wp_ret ?_);repeat first|refine tr ?_|refine br ?_
 have r := M.mem.at_ 0 _ rfl;have r2 := RowG.at_ r;exact sw_rettmp F Tryz.results46 rfl ⟨_, rfl, M.but.below (Nat.le_refl _) fun _ q => q.elim, r2.2.1, r2.2.2.1, fun j s hj => r2.2.2.2 j _ (by rw [show (_ : List (List Fld)) = signL.map (fun s => [Fld.s s]) from rfl, flat_words, List.getElem?_map, hj]; rfl)⟩
theorem drop_con {ws : List Key} {k : Nat} {s0 s : Key} (h : ws[k]? = some s0) : (ws.drop k).contains s = ((s0 == s) || (ws.drop (k + 1)).contains s) := by
 obtain ⟨h1, h2⟩ := List.getElem?_eq_some_iff.1 h;rw [List.drop_eq_getElem_cons h1, h2, List.contains_cons];have : (s == s0) = (s0 == s) := by rw [Bool.eq_iff_iff]; simp only [beq_iff_eq]; exact ⟨fun h => h.symm, fun h => h.symm⟩
 rw [this]
theorem has_any (x n c : Nat) (ws : List Key) (s : Key) (w : World) (hn : n = ws.length) (hn2 : n ≤ 1000) (hw : WordsAt x ws w) : Calls Tryz.prog 32 ([.slice (some ⟨x, 0, none⟩) n c, .string (str s)] : List Value).toArray w fun e w' => e = .returned (.bool (ws.contains s)) ∧ w' = w := by
 obtain ⟨wO, hwO⟩ : ∃ wO, wO = w := ⟨_, rfl⟩;rw [← hwO] at hw ⊢;refine sw_fn Tryz.func32 rfl 18 Tryz.ntmps32 rfl fun A F => ?_;refine sq (rg ?_);refine as1 F fun A F=>?_;refine en (sq (sq (rg ?_)));refine as1 F fun A F=>?_;refine en (wp_block ?_);refine wp_loop (fun A wv => wv = wO ∧ ∃ k : Nat, k ≤ n ∧ Fm 18 [(5, .int .i64 k), (0, .slice (some ⟨x, 0, none⟩) n c), (1, .string (str s))] A ∧ ws.contains s = (ws.drop k).contains s) (fun A _ => n - (intOf (A.eval (.tmp 5))).toNat) ?_ ?_
 ·exact ⟨rfl, 0, Nat.zero_le _, F.keep [5, 0, 1] rfl, by rw [List.drop_zero]⟩
 rintro A wO ⟨rfl, k, hk, F, hcon⟩;have hA5 : A.eval (.tmp 5) = .int .i64 k := F.2.2 5 _ rfl;refine sq (sq (rg ?_));refine mv F fun A F=>?_;refine mv F fun A F=>?_;refine sw_len F ⟨rfl, rfl, rfl⟩ rfl Tryz.underlying38 rfl fun A F => ?_;refine lsi F fun A F=>?_;refine en (cd F (fun hc1=>?_) fun hc1=>?_)
 ·have hlt : k < n := by have := of_decide_eq_true hc1; omega
  obtain ⟨s0, hget⟩ : ∃ s0, ws[k]? = some s0 := ⟨_, List.getElem?_eq_getElem (by omega)⟩;have hcell : wO.cell? ⟨x, 0 + k * 1, none⟩ = some (.string (str s0)) := by rw [Nat.zero_add, Nat.mul_one]; exact hw.2 k s0 hget
  refine wp_skip (sq ?_);refine wp_block ?_;refine sq (rg ?_);refine mv F fun A F=>?_;refine mv F fun A F=>?_;refine sw_at F 1 ⟨rfl, rfl, rfl⟩ rfl rfl (by omega) Tryz.underlying38 (by kernel_rfl) rfl fun A F => ?_;refine sw_ext F hcell ⟨rfl, rfl, rfl⟩ rfl (by kernel_rfl) rfl fun A F => ?_;refine mv F fun A F=>?_;refine sw_seq2 F ⟨rfl, rfl, rfl⟩ rfl rfl rfl fun A F => ?_;refine en (cd F (fun hc2=>?_) fun hc2=>?_)
  ·have heq := hc2;refine sq (rg ?_);refine as1 F fun A F=>?_;refine en (wp_ret ?_);repeat first|refine tr ?_|refine br ?_
   exact sw_rettmp F Tryz.results32 rfl ⟨by rw [hcon, drop_con hget, heq, Bool.true_or], rfl⟩
  have hne : (s0 == s) = false := hc2;refine wp_skip (rg ?_);refine mv F fun A F=>?_;refine sw_addw F ⟨rfl, rfl, rfl⟩ rfl rfl rfl fun A F => ?_;refine as1 F fun A F=>?_;refine sw_end ?_;show _ ∧ _;rw [wrapJ ((k : Int) + 1) (by omega) (by omega)] at F;replace F : Fm 18 [(5, .int .i64 ((k + 1 : Nat) : Int)), (0, .slice (some ⟨x, 0, none⟩) n c), (1, .string (str s))] _ := F.keep [5, 0, 1] rfl;refine ⟨⟨rfl, k + 1, by omega, F, by rw [hcon, drop_con hget, hne, Bool.false_or]⟩, ?_⟩;rw [F.2.2 5 _ rfl, hA5];simp only [intOf];omega
 have hkn : n ≤ k := by have := of_decide_eq_false hc1; omega
 refine wp_exit (sq (rg ?_));refine as1 F fun A F=>?_;refine en (wp_ret ?_);repeat first|refine tr ?_|refine br ?_
 exact sw_rettmp F Tryz.results32 rfl ⟨by rw [hcon, List.drop_eq_nil_of_le (by omega)]; rfl, rfl⟩
def findBlk (n : Nat) : Code → Option Code
 | .block m c => bif Nat.beq m n then some (.block m c) else findBlk n c
 | .seq a b => match findBlk n a with
  | some c => some c
  | none => findBlk n b
 | .scope c => findBlk n c
 | .loop c => findBlk n c
 | .cond _ a b => match findBlk n a with
  | some c => some c
  | none => findBlk n b
 | _ => none
def blkOf (fn : Func) (n : Nat) : Code := (fn.body.bind (findBlk n)).getD .skip
section
variable {Q : Exit → Act → World → Prop} {a : Act} {w : World}
theorem then_exit {next : Act → World → Prop} {id : Nat} (h : Q (.exit id) a w) : Exit.then next Q (.exit id) a w := h
theorem exit_block {id : Nat} (h : Q .normal a w) : Exit.inBlock id Q (.exit id) a w := by
 show (if id = id then Q .normal a w else Q (.exit id) a w);rw [if_pos rfl]; exact h
theorem exit_pass {id j : Nat} (hne : Nat.beq j id = false) (h : Q (.exit j) a w) : Exit.inBlock id Q (.exit j) a w := by
 show (if j = id then Q .normal a w else Q (.exit j) a w);rw [if_neg (fun e => by subst e; rw [Nat.beq_refl] at hne; cases hne)];exact h
end
theorem drop_get {l : Key} {i : Nat} {c : UInt8} (h : l[i]? = some c) : l.drop i = c :: l.drop (i + 1) := by
 obtain ⟨h1, h2⟩ := List.getElem?_eq_some_iff.1 h;rw [List.drop_eq_getElem_cons h1, h2]
theorem span_at {f : UInt8 → Bool} {l : Key} {i : Nat} {c : UInt8} (h : l[i]? = some c) : spanN f (l.drop i) = if f c then spanN f (l.drop (i + 1)) + 1 else 0 := by rw [drop_get h]; rfl
theorem span_end {f : UInt8 → Bool} {l : Key} {i : Nat} (h : l.length ≤ i) : spanN f (l.drop i) = 0 := by rw [List.drop_eq_nil_of_le h]; rfl
theorem byte_eq {c : UInt8} {n : Nat} (h : ((c.toNat : Int) == (n : Int)) = true) : c.toNat = n := by
 have := eq_of_beq h;omega
theorem byte_ne {c : UInt8} {n : Nat} (h : ((c.toNat : Int) == (n : Int)) = false) : c.toNat ≠ n := fun e => by rw [e] at h; simp at h
theorem gap_blank {l : Key} {i : Nat} {c : UInt8} (h : l[i]? = some c) (hc : c.toNat = 32 ∨ c.toNat = 10) : gap false (l.drop i) = gap false (l.drop (i + 1)) := by
 rw [drop_get h, gap, if_pos hc]
theorem gap_rem {l : Key} {i : Nat} {c : UInt8} (h : l[i]? = some c) (hc : c.toNat = 35) : gap false (l.drop i) = gap true (l.drop (i + 1)) := by
 rw [drop_get h, gap, if_neg (by omega), if_pos hc]
theorem gap_on {l : Key} {i : Nat} {c : UInt8} (h : l[i]? = some c) (hc : c.toNat ≠ 10) : gap true (l.drop i) = gap true (l.drop (i + 1)) := by
 rw [drop_get h, gap, if_neg hc]
theorem gap_nl {l : Key} {i : Nat} {c : UInt8} (h : l[i]? = some c) (hc : c.toNat = 10) : gap true (l.drop i) = gap false (l.drop i) := by
 rw [drop_get h];show (if c.toNat = 10 then _ else _) = (if c.toNat = 32 ∨ c.toNat = 10 then _ else _);rw [if_pos hc, if_pos (.inr hc)]
theorem gap_stop {l : Key} {i : Nat} {c : UInt8} (h : l[i]? = some c) (h1 : c.toNat ≠ 32) (h2 : c.toNat ≠ 10) (h3 : c.toNat ≠ 35) : gap false (l.drop i) = l.drop i := by
 rw [drop_get h, gap, if_neg (by omega), if_neg h3]
theorem gap_done {l : Key} {i : Nat} {x : Bool} (h : l.length ≤ i) : gap x (l.drop i) = l.drop i := by
 rw [List.drop_eq_nil_of_le h]; cases x <;> rfl
theorem gap_same {l : Key} {i : Nat} (h : l.length ≤ i) : gap true (l.drop i) = gap false (l.drop i) := by rw [gap_done h, gap_done h]
def dsat (l : Key) : Int := l.foldl (fun n c => if n ≤ 1099511627775 then n * 10 + ((c.toNat : Int) - 48) else n) 0
theorem dsat_snoc (l : Key) (c : UInt8) : dsat (l ++ [c]) = if dsat l ≤ 1099511627775 then dsat l * 10 + ((c.toNat : Int) - 48) else dsat l := by
 unfold dsat;rw [List.foldl_append];rfl
theorem isD_range {c : UInt8} (h : isD c = true) : 48 ≤ c.toNat ∧ c.toNat ≤ 57 := by
 unfold isD at h;rw [Bool.and_eq_true, decide_eq_true_eq, decide_eq_true_eq] at h;exact h
def DV (d v : Int) : Prop := 0 ≤ v ∧ 0 ≤ d ∧ d ≤ 10995116277760 ∧ (d ≤ 1099511627775 → d = v) ∧ (1099511627775 < d → 1099511627775 < v)
theorem DV.step {d v : Int} {c : UInt8} (h : DV d v) (hc : isD c = true) : DV (if d ≤ 1099511627775 then d * 10 + ((c.toNat : Int) - 48) else d) (10 * v + ((c.toNat : Int) - 48)) := by
 obtain ⟨h1, h2, h3, h4, h5⟩ := h;have hc := isD_range hc
 by_cases hl : d ≤ 1099511627775
 ·rw [if_pos hl];have := h4 hl;exact ⟨by omega, by omega, by omega, fun _ => by omega, fun _ => by omega⟩
 ·rw [if_neg hl];have := h5 (by omega);exact ⟨by omega, by omega, by omega, fun _ => by omega, fun _ => by omega⟩
theorem DV.fold : ∀ (l : Key) (d v : Int), (∀ c ∈ l, isD c = true) → DV d v → DV (l.foldl (fun n c => if n ≤ 1099511627775 then n * 10 + ((c.toNat : Int) - 48) else n) d) (l.foldl (fun n c => 10 * n + ((c.toNat : Int) - 48)) v)
 | [], _, _, _, h => h
 | c :: l, d, v, hd, h => DV.fold l _ _ (fun x hx => hd x (by simp [hx])) (h.step (hd c (by simp)))
theorem dsat_val (l : Key) (hd : ∀ c ∈ l, isD c = true) : DV (dsat l) (val10 l) := DV.fold l 0 0 hd ⟨by decide, by decide, by decide, fun _ => rfl, fun h => absurd h (by decide)⟩
def NX (text : Key) (r : Key) (at_ : Nat) (kd : Int) (tx : Key) (n e : Int) : Prop :=
 match cutT r with
 | (.none, _) => e = 6
 | (t, r') => e = 0 ∧ at_ ≤ text.length ∧ text.drop at_ = r' ∧ kd = tokK t ∧ tokT t tx ∧ n = t.n
theorem NX.err {text r : Key} {at_ : Nat} {kd n : Int} {tx r' : Key} (h : cutT r = (.none, r')) : NX text r at_ kd tx n 6 := by
 unfold NX; rw [h]
theorem NX.ok {text r : Key} {at_ : Nat} {kd n : Int} {tx : Key} {t : Tok} {r' : Key} (h : cutT r = (t, r')) (ht : t ≠ .none) (h1 : at_ ≤ text.length) (h2 : text.drop at_ = r') (h3 : kd = tokK t) (h4 : tokT t tx) (h5 : n = t.n) : NX text r at_ kd tx n 0 := by
 unfold NX;rw [h]
 cases t with
 | none => exact absurd rfl ht
 | _ => exact ⟨rfl, h1, h2, h3, h4, h5⟩
theorem nx_end {text : Key} {i : Nat} (h : text.length ≤ i) : cutT (text.drop i) = (.fin, []) := by rw [List.drop_eq_nil_of_le h]; rfl
theorem nx_word {text : Key} {i j : Nat} {c : UInt8} (h : text[i]? = some c) (hl : isL c = true) (hij : i ≤ j) (hs : spanN goes (text.drop i) = j - i) : cutT (text.drop i) = (wordOf ((text.take j).drop i), text.drop j) := by
 have hd : text.drop j = (text.drop i).drop (j - i) := by rw [List.drop_drop]; congr 1; omega
 have ht : (text.take j).drop i = (text.drop i).take (j - i) := by rw [List.drop_take]
 rw [hd, ht, ← hs];rw [drop_get h, cutT, if_pos hl]
theorem nx_num {text : Key} {i j : Nat} {c : UInt8} (h : text[i]? = some c) (hl : isL c = false) (hd0 : isD c = true) (hij : i ≤ j) (hs : spanN isD (text.drop i) = j - i) : cutT (text.drop i) = (numberOf ((text.take j).drop i), text.drop j) := by
 have hd : text.drop j = (text.drop i).drop (j - i) := by rw [List.drop_drop]; congr 1; omega
 have ht : (text.take j).drop i = (text.drop i).take (j - i) := by rw [List.drop_take]
 rw [hd, ht, ← hs];rw [drop_get h, cutT, if_neg (by rw [hl]; simp), if_pos hd0]
theorem nx_sign {text : Key} {i : Nat} {c : UInt8} (h : text[i]? = some c) (hl : isL c = false) (hd0 : isD c = false) : cutT (text.drop i) = signOf (text.drop i) := by
 rw [drop_get h, cutT, if_neg (by rw [hl]; simp), if_neg (by rw [hd0]; simp)]
end Go.Proofs.YthhpkjmhcolgfaaGreatDoor
