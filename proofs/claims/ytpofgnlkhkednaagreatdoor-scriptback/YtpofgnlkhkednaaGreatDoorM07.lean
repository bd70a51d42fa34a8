import Derived.Test.YtpofgnlkhkednaaGreatDoorM06
namespace Go.Proofs.YtpofgnlkhkednaaGreatDoor
open Go.RowKit
set_option linter.unusedVariables false
set_option linter.unusedSimpArgs false
set_option maxRecDepth 20000
set_option maxHeartbeats 8000000
theorem Rel.unbind {α β : Type} [Inhabited α] {F : PM α} {G : α → PM β} {S S2 : ES} {y : β} (h : Rel (bnd F G) S y S2) : ∃ x S1, Rel F S x S1 ∧ Rel (G x) S1 y S2 := by
 cases S with
 | error e => exact ⟨default, .error e, rfl, h⟩
 | ok σ =>
  cases hF : F σ with
  | error e =>
   have h := h.get_err (e := e) (by simp only [bnd, hF]);subst h;exact ⟨default, .error e, Rel.of_err hF, rfl⟩
  | ok p =>
   obtain ⟨x, τ⟩ := p;refine ⟨x, .ok τ, Rel.of_ok hF, ?_⟩;unfold Rel at h ⊢
   simpa only [bnd, hF] using h
theorem Rel.stay {s : Key} {S S' : ES} {x : Bool} (h : Rel (isT s) S x S') : S' = S := by
 cases S with
 | error e => exact h
 | ok σ => exact (h.get_ok rfl).2
theorem need_open {s : Key} {S S' : ES} (h : Rel (openT s) S () S') : need S' ≤ need S ∧ (stands s S = true → need S' + 16 ≤ need S) := by
 obtain ⟨x, S1, h1, h2⟩ := Rel.unbind h;have e := h1.stay;subst e;obtain ⟨⟨⟩, S2, h3, h4⟩ := Rel.unbind h2;have h5 := need_take h4
 cases x with
 | false =>
  have : S2 = S1 := by
   have h3 : Rel (pur ()) S1 () S2 := h3
   cases S1 with
   | error e => exact h3
   | ok σ => exact (h3.get_ok rfl).2
  subst this;exact h5
 | true =>
  have h6 := need_deeper (show Rel deeperT S1 () S2 from h3);refine ⟨by omega, fun q => ?_⟩
  cases S1 with
  | error e => cases q
  | ok σ =>
   by_cases h32 : σ.lv = 32
   ·have h3 : S2 = .error 7 := (show Rel deeperT (.ok σ) () S2 from h3).get_err (if_pos h32);subst h3;have h4 : S' = .error 7 := h4;subst h4;have := of_decide_eq_true q;show 0 + 16 ≤ 16 * mu σ;have : mu σ = σ.rest.length + 1 := by unfold mu; rw [if_neg (by rw [this]; simp)]
    omega
   ·have h3 := ((show Rel deeperT (.ok σ) () S2 from h3).get_ok (if_neg h32)).2;subst h3;have := h5.2 q;exact this
theorem need_shut {s : Key} {S S' : ES} (h : Rel (shutT s) S () S') : need S' ≤ need S := by
 obtain ⟨⟨⟩, S1, h1, h2⟩ := Rel.unbind h;exact Nat.le_trans (need_up h2) (need_take h1).1
theorem need_room {n m : Int} {S S' : ES} (h : Rel (roomT n m) S () S') : need S' ≤ need S := by
 unfold roomT at h
 split at h
 ·cases S with
  | error e => have h : S' = .error e := h; subst h; exact Nat.le_refl _
  | ok σ => rw [h.get_err (e := 3) rfl]; exact Nat.zero_le _
 ·cases S with
  | error e => have h : S' = .error e := h; subst h; exact Nat.le_refl _
  | ok σ => rw [(h.get_ok (τ := σ) rfl).2]; exact Nat.le_refl _
theorem need_wrong {α : Type} {x : α} {S S' : ES} (h : Rel (wrongT : PM α) S x S') : need S' ≤ need S := by
 cases S with
 | error e => have h : S' = .error e := h; subst h; exact Nat.le_refl _
 | ok σ => rw [h.get_err (e := errT σ) rfl]; exact Nat.zero_le _
theorem need_name {s : Key} {S S' : ES} (h : Rel nameT S s S') : need S' ≤ need S ∧ ((∃ σ t, S = .ok σ ∧ σ.now = .name t) → need S' + 16 ≤ need S) := by
 cases S with
 | error e => have h : S' = .error e := h; subst h; exact ⟨Nat.le_refl _, fun ⟨σ, t, q, _⟩ => by cases q⟩
 | ok σ =>
  by_cases hn : ∃ t, σ.now = .name t
  ·obtain ⟨t, ht⟩ := hn;have e : nameT σ = bnd nextT (fun _ => pur t) σ := by unfold nameT; rw [ht]
   have h' : Rel (bnd nextT fun _ => pur t) (.ok σ) s S' := by unfold Rel at h ⊢; simpa only [e] using h
   obtain ⟨⟨⟩, S1, h1, h2⟩ := Rel.unbind h'
   have e2 : S' = S1 := by
    cases S1 with
    | error e => exact h2
    | ok σ => exact (h2.get_ok rfl).2
   subst e2;exact ⟨need_next h1, fun _ => need_here h1 ⟨by rw [ht]; simp, by rw [ht]; simp⟩⟩
  ·have e : nameT σ = .error (errT σ) := by
    unfold nameT;cases h : σ.now <;> simp_all
   rw [h.get_err e];exact ⟨Nat.zero_le _, fun ⟨τ, t, q, r⟩ => by injection q with q; subst q; exact absurd ⟨t, r⟩ hn⟩
abbrev EV := List Pv
def exP (op n : Int) (s : Key) (es : List EV) : EV := [.i op, .i n, .s s, .l es]
def formI (op : Int) : Int := (formL.map (·.2)).getD op.toNat 0
abbrev kNot : Key := [110, 111, 116]
abbrev kTrue : Key := [116, 114, 117, 101]
abbrev kFalse : Key := [102, 97, 108, 115, 101]
mutual
def exprT : Nat → Int → PM EV
 | 0, _ => failT 0
 | n + 1, r => if r = 7 then atomT n else if r = 3 then bnd (isT kNot) fun c => if c then notT n else exprT n (r + 1) else bnd (exprT n (r + 1)) fun x => loopT n r x
def loopT : Nat → Int → EV → PM EV
 | 0, _, _ => failT 0
 | n + 1, r, x => bnd (pickT (operW r)) fun op => if op = 0 then pur x else bnd nextT fun _ => bnd (exprT n (r + 1)) fun y => if r = 4 then pur (exP op 0 [] [x, y]) else loopT n r (exP op 0 [] [x, y])
def notT : Nat → PM EV
 | 0 => failT 0
 | n + 1 => bnd deeperT fun _ => bnd (takeT kNot) fun _ => bnd (exprT n 3) fun x => bnd upT fun _ => pur (exP 8 0 [] [x])
def innerT : Nat → Key → Key → PM EV
 | 0, _, _ => failT 0
 | n + 1, o, c => bnd (openT o) fun _ => bnd (exprT n 1) fun x => bnd (shutT c) fun _ => pur x
def commaT : Nat → PM (List EV)
 | 0 => failT 0
 | n + 1 => bnd (isT [41]) fun c => if c then pur [] else bnd (exprT n 1) fun x => moreT n [x]
def moreT : Nat → List EV → PM (List EV)
 | 0, _ => failT 0
 | n + 1, l => bnd (isT [44]) fun c => if c then bnd (roomT l.length 8) fun _ => bnd (takeT [44]) fun _ => bnd (exprT n 1) fun x => moreT n (l ++ [x]) else pur l
def argsT : Nat → PM (List EV)
 | 0 => failT 0
 | n + 1 => bnd (openT [40]) fun _ => bnd (commaT n) fun l => bnd (shutT [41]) fun _ => pur l
def namedT : Nat → PM EV
 | 0 => failT 0
 | n + 1 => bnd nameT fun s => bnd (isT [91]) fun c => if c then bnd (innerT n [91] [93]) fun y => pur (exP 4 0 s [y]) else bnd (isT [40]) fun d => if d then bnd (argsT n) fun l => pur (exP 5 0 s l) else pur (exP 3 0 s [])
def wordT : Nat → PM EV
 | 0 => failT 0
 | n + 1 => bnd (isT [40]) fun c => if c then innerT n [40] [41] else bnd (isT kTrue) fun c => if c then bnd (takeT kTrue) fun _ => pur (exP 2 1 [] []) else bnd (isT kFalse) fun c => if c then bnd (takeT kFalse) fun _ => pur (exP 2 0 [] [])
   else bnd (pickT (operW 7)) fun op => if op = 0 then wrongT else bnd nextT fun _ => if formI op = 1 then bnd (innerT n [40] [41]) fun y => pur (exP op 0 [] [y]) else pur (exP op 0 [] [])
def atomT : Nat → PM EV
 | 0 => failT 0
 | n + 1 => fun σ =>
  match σ.now with
  | .num m => bnd nextT (fun _ => pur (exP 1 m [] [])) σ
  | .name _ => namedT n σ
  | _ => wordT n σ
end
def Good (s : Key) : Prop := s ∈ wordL ∨ s ∈ signL ∨ nmB s = true ∨ ∃ n : Nat, n ≤ 1099511627775 ∧ s = digK n
def tkOf (s : Key) : Tok := if wordL.contains s || signL.contains s then .fixed s else if nmB s then .name s else .num (val10 s)
def Stop (r : Key) : Prop := r = [] ∨ ∃ q, r = 32 :: q
theorem Stop.not {r : Key} (h : Stop r) {f : UInt8 → Bool} (hf : f 32 = false) : ∀ c, r[0]? = some c → f c = false := fun c hc => by
 rcases h with rfl | ⟨q, rfl⟩
 ·cases hc
 ·have e : (32 : UInt8) = c := Option.some.inj hc;rw [← e]; exact hf
theorem span_app {f : UInt8 → Bool} {s r : Key} (h : ∀ c ∈ s, f c = true) (hr : Stop r) (hf : f 32 = false) : spanN f (s ++ r) = s.length := by
 refine spanN_at f (s ++ r) s.length (by simp) (fun i c hi hc => ?_) (fun c hc => ?_)
 ·rw [List.getElem?_append_left hi] at hc;exact h c (List.mem_of_getElem? hc)
 ·rw [List.getElem?_append_right (Nat.le_refl _), Nat.sub_self] at hc;exact hr.not hf c hc
theorem cut_word {s r : Key} (h : s.all goes = true) (h0 : (s.head?.map isL).getD false = true) (hr : Stop r) : cutT (s ++ r) = (wordOf s, r) := by
 cases s with
 | nil => exact absurd h0 (by decide)
 | cons c q =>
  have hc : isL c = true := h0;have hs : spanN goes (c :: (q ++ r)) = (c :: q).length := span_app (s := c :: q) (fun d hd => List.all_eq_true.1 h d hd) hr (by decide);show cutT (c :: (q ++ r)) = _;rw [cutT, if_pos hc, hs];have e : c :: (q ++ r) = (c :: q) ++ r := rfl;rw [e, List.take_left' rfl, List.drop_left' rfl]
theorem words_ok : ∀ s ∈ wordL, s.all goes = true ∧ (s.head?.map isL).getD false = true := by decide
theorem nm_parts {s : Key} (h : nmB s = true) : s.length ≤ 16 ∧ (s.head?.map isL).getD false = true ∧ s.all goes = true ∧ wordL.contains s = false := by
 unfold nmB at h;simp only [Bool.and_eq_true, decide_eq_true_eq, Bool.not_eq_true'] at h;exact ⟨h.1.1.1.2, h.1.1.2, h.1.2, h.2⟩
theorem sign_1 : ∀ g ∈ signL, ∀ c, g.head? = some c → isL c = false ∧ isD c = false := by decide
theorem find_same {α : Type} {f g : α → Bool} : ∀ {l : List α}, (∀ x ∈ l, f x = g x) → l.find? f = l.find? g
 | [], _ => rfl
 | x :: l, h => by
  rw [List.find?_cons, List.find?_cons, h x (List.mem_cons_self ..), find_same fun y hy => h y (List.mem_cons_of_mem _ hy)]
theorem sign_find {r : Key} (hr : Stop r) : ∀ g ∈ signL, signL.find? (fun h => decide ((g ++ r).take h.length = h)) = some g := by
 intro g hg;rcases hr with rfl | ⟨q, rfl⟩
 ·rw [List.append_nil];revert g hg;decide
 ·have e : ∀ h ∈ signL, (g ++ 32 :: q).take h.length = (g ++ [32]).take h.length := by
   intro h hh;have l1 : h.length ≤ 2 := by revert h hh; decide
   have l2 : 1 ≤ g.length := sign_len g hg;rw [show g ++ 32 :: q = (g ++ [32]) ++ q by simp];exact List.take_append_of_le_length (by simp; omega)
  have e2 : signL.find? (fun h => decide ((g ++ 32 :: q).take h.length = h)) = signL.find? (fun h => decide ((g ++ [32]).take h.length = h)) := by
   refine find_same fun h hh => ?_;rw [e h hh]
  rw [e2];clear e e2;revert g hg;decide
theorem lex_sign {g r : Key} (hg : g ∈ signL) (hr : Stop r) : cutT (g ++ r) = (.fixed g, r) := by
 have hf := sign_find hr g hg;have h1 := sign_len g hg
 cases g with
 | nil => exact absurd h1 (by decide)
 | cons c q =>
  obtain ⟨a, b⟩ := sign_1 _ hg c rfl;show cutT (c :: (q ++ r)) = _;rw [cutT, if_neg (by rw [a]; decide), if_neg (by rw [b]; decide)];show signOf ((c :: q) ++ r) = _;unfold signOf;rw [hf];simp only [List.drop_left' rfl]
theorem dg_low {n : Nat} (h : n < 10) : digK n = [UInt8.ofNat (48 + n)] := by rw [digK, if_pos h]
theorem dg_big {n : Nat} (h : ¬ n < 10) : digK n = digK (n / 10) ++ [UInt8.ofNat (48 + n % 10)] := by rw [digK, if_neg h]
theorem u8_dig {d : Nat} (h : d < 10) : (UInt8.ofNat (48 + d)).toNat = 48 + d := by
 rw [UInt8.toNat_ofNat']; omega
theorem isD_dig {d : Nat} (h : d < 10) : isD (UInt8.ofNat (48 + d)) = true := by
 unfold isD; rw [u8_dig h]; simp; omega
theorem dig_parts (n : Nat) : (∀ c ∈ digK n, isD c = true) ∧ val10 (digK n) = n ∧ digK n ≠ [] ∧ (10 ≤ n → (digK n).head? ≠ some 48) ∧ (n < 10 → (digK n).length = 1) := by
 induction n using Nat.strongRecOn with
 | ind n ih =>
  by_cases h : n < 10
  ·rw [dg_low h];refine ⟨fun c hc => ?_, ?_, by simp, fun q => by omega, fun _ => rfl⟩
   ·rw [List.mem_singleton.1 hc]; exact isD_dig h
   ·show 10 * (0 : Int) + (((UInt8.ofNat (48 + n)).toNat : Int) - 48) = n;rw [u8_dig h]; omega
  ·obtain ⟨a, b, c, d, e⟩ := ih (n / 10) (by omega);have hm : n % 10 < 10 := Nat.mod_lt _ (by decide);rw [dg_big h];refine ⟨fun x hx => ?_, ?_, by simp, fun _ => ?_, fun q => absurd q h⟩
   ·rcases List.mem_append.1 hx with hx | hx
    ·exact a x hx
    ·rw [List.mem_singleton.1 hx]; exact isD_dig hm
   ·show ((digK (n / 10) ++ [UInt8.ofNat (48 + n % 10)]).foldl _ 0 : Int) = n;rw [List.foldl_append];show 10 * val10 (digK (n / 10)) + (((UInt8.ofNat (48 + n % 10)).toNat : Int) - 48) = n;rw [b, u8_dig hm]; omega
   ·cases hq : digK (n / 10) with
    | nil => exact absurd hq c
    | cons x r =>
     show some x ≠ some 48;intro q;have q := Option.some.inj q
     by_cases h10 : 10 ≤ n / 10
     ·have := d h10;rw [hq] at this;exact this (congrArg some q)
     ·have hl := e (by omega);have hlow := dg_low (n := n / 10) (by omega);rw [hq] at hlow;injection hlow with h1 h2
      rw [q] at h1;have := congrArg UInt8.toNat h1;rw [u8_dig (by omega)] at this;have : (48 : UInt8).toNat = 48 := rfl;omega
theorem cut_dig {n : Nat} {r : Key} (hn : n ≤ 1099511627775) (hr : Stop r) : cutT (digK n ++ r) = (.num n, r) := by
 obtain ⟨a, b, c, d, e⟩ := dig_parts n;have hs : spanN isD (digK n ++ r) = (digK n).length := span_app a hr (by decide)
 cases hq : digK n with
 | nil => exact absurd hq c
 | cons x q =>
  rw [hq] at hs;have hx : isD x = true := a x (by rw [hq]; exact List.mem_cons_self ..)
  have hx2 : isL x = false := by
   unfold isD at hx;unfold isL;simp only [Bool.and_eq_true, decide_eq_true_eq] at hx;simp; omega
  show cutT (x :: (q ++ r)) = _;rw [cutT, if_neg (by rw [hx2]; decide), if_pos hx];have e2 : x :: (q ++ r) = (x :: q) ++ r := rfl;rw [e2, hs, List.take_left' rfl, List.drop_left' rfl, ← hq]
  have : numberOf (digK n) = .num n := by
   unfold numberOf;rw [if_neg, if_neg, b]
   ·rw [b]; omega
   ·rintro ⟨h1, h2⟩
    by_cases h10 : 10 ≤ n
    ·exact d h10 h2
    ·have := e (by omega); omega
  rw [this]
theorem fixed_of {s : Key} (h : s ∈ wordL ∨ s ∈ signL) : tkOf s = .fixed s := by
 unfold tkOf;rw [if_pos];rcases h with h | h
 ·rw [Bool.or_eq_true]; exact .inl (List.contains_iff_mem.2 h)
 ·rw [Bool.or_eq_true]; exact .inr (List.contains_iff_mem.2 h)
theorem isD_not {s : Key} (h0 : (s.head?.map isL).getD false = true) : signL.contains s = false := by
 cases hq : signL.contains s with
 | false => rfl
 | true =>
  have := List.contains_iff_mem.1 hq
  cases s with
  | nil => exact absurd h0 (by decide)
  | cons c r =>
   have h1 := (sign_1 _ this c rfl).1;have h0 : isL c = true := h0;rw [h1] at h0; cases h0
theorem name_of {s : Key} (h : nmB s = true) : tkOf s = .name s := by
 obtain ⟨_, h1, _, h2⟩ := nm_parts h;unfold tkOf;rw [h2, isD_not h1, if_neg (by decide), if_pos h]
theorem num_of (n : Nat) : tkOf (digK n) = .num n := by
 obtain ⟨a, b, c, d, e⟩ := dig_parts n
 cases hq : digK n with
 | nil => exact absurd hq c
 | cons x q =>
  have hx : isD x = true := a x (by rw [hq]; exact List.mem_cons_self ..)
  have hx2 : isL x = false := by
   unfold isD at hx;unfold isL;simp only [Bool.and_eq_true, decide_eq_true_eq] at hx;simp; omega
  have h1 : wordL.contains (x :: q) = false := by
   cases hw : wordL.contains (x :: q) with
   | false => rfl
   | true =>
    have := (words_ok _ (List.contains_iff_mem.1 hw)).2;have this : isL x = true := this;rw [hx2] at this; cases this
  have h2 : signL.contains (x :: q) = false := by
   cases hw : signL.contains (x :: q) with
   | false => rfl
   | true =>
    have := (sign_1 _ (List.contains_iff_mem.1 hw) x rfl).2;rw [hx] at this; cases this
  have h3 : nmB (x :: q) = false := by
   cases hw : nmB (x :: q) with
   | false => rfl
   | true =>
    have := (nm_parts hw).2.1;have this : isL x = true := this;rw [hx2] at this; cases this
  unfold tkOf;rw [h1, h2, h3, if_neg (by decide), if_neg (by decide), ← hq, b]
theorem cut_good {s r : Key} (h : Good s) (hr : Stop r) : cutT (s ++ r) = (tkOf s, r) := by
 rcases h with h | h | h | ⟨n, hn, rfl⟩
 ·obtain ⟨a, b⟩ := words_ok s h;rw [cut_word a b hr, fixed_of (.inl h)];unfold wordOf;rw [if_pos (List.contains_iff_mem.2 h)]
 ·rw [lex_sign h hr, fixed_of (.inr h)]
 ·obtain ⟨a, b, c, d⟩ := nm_parts h;rw [cut_word c b hr, name_of h];unfold wordOf;rw [if_neg (by rw [d]; decide), if_pos a]
 ·rw [cut_dig hn hr, num_of]
theorem Good.head {s : Key} (h : Good s) : ∃ c r, s = c :: r ∧ c.toNat ≠ 32 ∧ c.toNat ≠ 10 ∧ c.toNat ≠ 35 := by
 have key : ∀ c : UInt8, (isL c = true ∨ isD c = true) → c.toNat ≠ 32 ∧ c.toNat ≠ 10 ∧ c.toNat ≠ 35 := by
  intro c hc;unfold isL isD at hc;simp only [Bool.and_eq_true, decide_eq_true_eq] at hc;omega
 rcases h with h | h | h | ⟨n, hn, rfl⟩
 ·have := (words_ok s h).2
  cases s with
  | nil => exact absurd this (by decide)
  | cons c r => exact ⟨c, r, rfl, key c (.inl this)⟩
 ·have : ∀ g ∈ signL, ∃ c r, g = c :: r ∧ c.toNat ≠ 32 ∧ c.toNat ≠ 10 ∧ c.toNat ≠ 35 := by
   intro g hg
   cases g with
   | nil => exact absurd hg (by decide)
   | cons c r => exact ⟨c, r, rfl, by
     have : ∀ g ∈ signL, ∀ c, g.head? = some c → c.toNat ≠ 32 ∧ c.toNat ≠ 10 ∧ c.toNat ≠ 35 := by decide
     exact this _ hg c rfl⟩
  exact this s h
 ·have := (nm_parts h).2.1
  cases s with
  | nil => exact absurd this (by decide)
  | cons c r => exact ⟨c, r, rfl, key c (.inl this)⟩
 ·obtain ⟨a, b, c, d, e⟩ := dig_parts n
  cases hq : digK n with
  | nil => exact absurd hq c
  | cons x r => exact ⟨x, r, rfl, key x (.inr (a x (by rw [hq]; exact List.mem_cons_self ..)))⟩
def jn : List Key → Key
 | [] => []
 | s :: r => 32 :: (s ++ jn r)
theorem jn_stop : ∀ l, Stop (jn l)
 | [] => .inl rfl
 | s :: r => .inr ⟨_, rfl⟩
def stOf : List Key → Int → St
 | [], lv => ⟨[], .fin, lv⟩
 | s :: r, lv => ⟨jn r, tkOf s, lv⟩
theorem tk_not {s : Key} (h : Good s) : tkOf s ≠ .none := by
 unfold tkOf
 split
 ·simp
 ·split <;> simp
def Gs (l : List Key) : Prop := ∀ s ∈ l, Good s
theorem Gs.nil : Gs [] := fun s h => by cases h
theorem Gs.app {a b : List Key} (h : Gs a) (g : Gs b) : Gs (a ++ b) := fun s q => by
 rcases List.mem_append.1 q with q | q
 ·exact h s q
 ·exact g s q
theorem Gs.cons {a : Key} {b : List Key} (h : Good a) (g : Gs b) : Gs (a :: b) := fun s q => by
 rcases List.mem_cons.1 q with rfl | q
 ·exact h
 ·exact g s q
theorem Gs.l {a b : List Key} (h : Gs (a ++ b)) : Gs a := fun s q => h s (List.mem_append_left _ q)
theorem Gs.r {a b : List Key} (h : Gs (a ++ b)) : Gs b := fun s q => h s (List.mem_append_right _ q)
theorem Gs.tl {a : Key} {b : List Key} (h : Gs (a :: b)) : Gs b := fun s q => h s (List.mem_cons_of_mem _ q)
theorem gap_good {s r : Key} (h : Good s) : gap false (s ++ r) = s ++ r := by
 obtain ⟨c, q, rfl, h1, h2, h3⟩ := h.head;show gap false (c :: (q ++ r)) = _;rw [gap, if_neg (by omega), if_neg h3];rfl
theorem next_at {s r : Key} {σ : St} (h : Good s) (hr : Stop r) (e : gap false σ.rest = s ++ r) : nextT σ = .ok ((), { σ with now := tkOf s, rest := r }) := by
 unfold nextT;rw [e, cut_good h hr];have := tk_not h
 cases hq : tkOf s with
 | none => exact absurd hq this
 | fin => rfl
 | name _ => rfl
 | num _ => rfl
 | fixed _ => rfl
theorem next_st {s : Key} {l : List Key} {lv : Int} (h : Gs l) : nextT (stOf (s :: l) lv) = .ok ((), stOf l lv) := by
 cases l with
 | nil => rfl
 | cons t r => exact next_at (s := t) (r := jn r) (h t (List.mem_cons_self ..)) (jn_stop r) (by
   show gap false (32 :: (t ++ jn r)) = _;rw [gap, if_pos (.inl rfl)]
   exact gap_good (h t (List.mem_cons_self ..)))
theorem next_0 {s : Key} {l : List Key} (h : Gs (s :: l)) : nextT ⟨s ++ jn l, .none, 0⟩ = .ok ((), stOf (s :: l) 0) :=
 next_at (h s (List.mem_cons_self ..)) (jn_stop l) (gap_good (h s (List.mem_cons_self ..)))
end Go.Proofs.YtpofgnlkhkednaaGreatDoor
