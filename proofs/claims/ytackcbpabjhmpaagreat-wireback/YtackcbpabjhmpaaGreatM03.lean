import Derived.Test.YtackcbpabjhmpaaGreatM02
import Derived.Laws.Bits64b
import Derived.Deep.CutRange
import Derived.Deep.DeepCutAuto
import Derived.Deep.CutBlock
namespace Go.Proofs.YtackcbpabjhmpaaGreat
open Go.RowKit
set_option linter.unusedVariables false
set_option linter.unusedSimpArgs false
inductive Sc where
 | num (most : Int)
 | flag
 | dig
 | text (most : Int)
 | list (most : Int) (els : List Sc)
inductive Pv where
 | i (n : Int)
 | d (n : Int)
 | b (x : Bool)
 | s (t : List UInt8)
 | l (es : List (List Pv))
abbrev Rs (α : Type) := Except Int (α × List UInt8)
def numP (most : Int) : List UInt8 → Rs Int
 | [] => .error 1
 | c :: r => if 5 < c.toNat then .error 2 else if r.length < c.toNat then .error 1 else if (r.take c.toNat).head? = some 0 then .error 2 else
   if most < (val (r.take c.toNat) : Int) then .error 3 else .ok (val (r.take c.toNat), r.drop c.toNat)
def flagP : List UInt8 → Rs Bool
 | [] => .error 1
 | c :: r => if 1 < c.toNat then .error 2 else .ok (c == 1, r)
def digP (s : List UInt8) : Rs Int := if s.length < 8 then .error 1 else .ok (val (s.take 8), s.drop 8)
def textP (most : Int) (s : List UInt8) : Rs (List UInt8) :=
 match numP most s with
 | .error e => .error e
 | .ok (n, r) => if r.length < n.toNat then .error 1 else .ok (r.take n.toNat, r.drop n.toNat)
def rep {α : Type} (f : List UInt8 → Rs α) : Nat → List UInt8 → Rs (List α)
 | 0, s => .ok ([], s)
 | n + 1, s =>
  match f s with
  | .error e => .error e
  | .ok (x, r) =>
   match rep f n r with
   | .error e => .error e
   | .ok (xs, q) => .ok (x :: xs, q)
mutual
def Sc.read : Sc → List UInt8 → Rs Pv
 | .num m, s =>
  match numP m s with
  | .error e => .error e
  | .ok (n, r) => .ok (.i n, r)
 | .flag, s =>
  match flagP s with
  | .error e => .error e
  | .ok (n, r) => .ok (.b n, r)
 | .dig, s =>
  match digP s with
  | .error e => .error e
  | .ok (n, r) => .ok (.d n, r)
 | .text m, s =>
  match textP m s with
  | .error e => .error e
  | .ok (n, r) => .ok (.s n, r)
 | .list m els, s =>
  match numP m s with
  | .error e => .error e
  | .ok (n, r) =>
   match rep (readAll els) n.toNat r with
   | .error e => .error e
   | .ok (es, q) => .ok (.l es, q)
def readAll : List Sc → List UInt8 → Rs (List Pv)
 | [], s => .ok ([], s)
 | c :: cs, s =>
  match c.read s with
  | .error e => .error e
  | .ok (v, r) =>
   match readAll cs r with
   | .error e => .error e
   | .ok (vs, q) => .ok (v :: vs, q)
end
def andR (a : Rs (List Pv)) (f : List UInt8 → Rs (List Pv)) : Rs (List Pv) :=
 match a with
 | .error e => .error e
 | .ok (vs, r) =>
  match f r with
  | .error e => .error e
  | .ok (us, q) => .ok (vs ++ us, q)
theorem readAll_app : ∀ (cs ds : List Sc) (s : List UInt8), readAll (cs ++ ds) s = andR (readAll cs s) (readAll ds)
 | [], ds, s => by
  show readAll ds s = andR (.ok ([], s)) (readAll ds)
  unfold andR
  simp only [List.nil_append]
  cases readAll ds s with
  | error e => rfl
  | ok p => rfl
 | c :: cs, ds, s => by
  show readAll (c :: (cs ++ ds)) s = _
  rw [readAll, readAll]
  cases hc : c.read s with
  | error e => rfl
  | ok p =>
   obtain ⟨v, r⟩ := p
   simp only [readAll_app cs ds r]
   cases h1 : readAll cs r with
   | error e => simp only [andR]
   | ok p1 =>
    obtain ⟨vs, q⟩ := p1
    simp only [andR]
    cases h2 : readAll ds q with
    | error e => rfl
    | ok p2 => rfl
theorem readAll_one (c : Sc) (s : List UInt8) : readAll [c] s = match c.read s with | .error e => .error e | .ok (v, r) => .ok ([v], r) := by
 rw [readAll]
 cases c.read s with
 | error e => rfl
 | ok p => simp only [readAll]
def RepAt {α : Type} (f : List UInt8 → Rs α) (n : Nat) (s : List UInt8) (k : Nat) (xs : List α) (r : List UInt8) : Prop :=
 xs.length = k ∧ k ≤ n ∧ rep f n s = match rep f (n - k) r with | .error e => .error e | .ok (ys, q) => .ok (xs ++ ys, q)
theorem RepAt.zero {α : Type} (f : List UInt8 → Rs α) (n : Nat) (s : List UInt8) : RepAt f n s 0 [] s := by
 refine ⟨rfl, Nat.zero_le _, ?_⟩
 simp only [Nat.sub_zero, List.nil_append]
 cases rep f n s with
 | error e => rfl
 | ok p => rfl
theorem RepAt.next {α : Type} {f : List UInt8 → Rs α} {n : Nat} {s : List UInt8} {k : Nat} {xs : List α} {r : List UInt8} (h : RepAt f n s k xs r) (hk : k < n) {x : α} {q : List UInt8} (hx : f r = .ok (x, q)) : RepAt f n s (k + 1) (xs ++ [x]) q := by
 obtain ⟨h1, h2, h3⟩ := h
 refine ⟨by simp [h1], hk, ?_⟩
 rw [h3]
 have e : n - k = (n - (k + 1)) + 1 := by omega
 rw [e, rep, hx]
 simp only
 cases rep f (n - (k + 1)) q with
 | error e => rfl
 | ok p => simp
theorem RepAt.fails {α : Type} {f : List UInt8 → Rs α} {n : Nat} {s : List UInt8} {k : Nat} {xs : List α} {r : List UInt8} (h : RepAt f n s k xs r) (hk : k < n) {e : Int} (hx : f r = .error e) : rep f n s = .error e := by
 obtain ⟨h1, h2, h3⟩ := h
 rw [h3]
 have e : n - k = (n - (k + 1)) + 1 := by omega
 rw [e, rep, hx]
theorem RepAt.ends {α : Type} {f : List UInt8 → Rs α} {n : Nat} {s : List UInt8} {xs : List α} {r : List UInt8} (h : RepAt f n s n xs r) : rep f n s = .ok (xs, r) := by
 obtain ⟨h1, h2, h3⟩ := h
 rw [h3, Nat.sub_self]
 simp [rep]
mutual
def Sc.atoms : Sc → Pv → List Atom
 | .num m, .i n => [.num m n]
 | .flag, .b x => flagL x
 | .dig, .d n => digL n
 | .text m, .s t => textL m t
 | .list m els, .l es => Atom.num m es.length :: eachL (fun e => atomsAll els e) es
 | _, _ => []
def atomsAll : List Sc → List Pv → List Atom
 | c :: cs, v :: vs => c.atoms v ++ atomsAll cs vs
 | _, _ => []
end
theorem be_val : ∀ (k : Nat) (t : List UInt8), t.length = k → be (val t) k = t
 | 0, t, h => by
  have : t = [] := List.eq_nil_of_length_eq_zero h
  subst this
  rfl
 | k + 1, t, h => by
  rcases List.eq_nil_or_concat t with e | ⟨r, c, e⟩
  ·subst e; cases h
  ·rw [List.concat_eq_append] at e
   subst e
   have hr : r.length = k := by simpa using h
   rw [be_snocL, val_snoc]
   have hc : c.toNat < 256 := c.toNat_lt
   have h1 : (((val r * 256 + c.toNat : Nat) : Int)) / 256 = (val r : Int) := by omega
   rw [h1, be_val k r hr]
   congr 1
   have h2 := byteAt_nat ((val r * 256 + c.toNat : Nat) : Int)
   have h3 : (((val r * 256 + c.toNat : Nat) : Int)) % 256 = (c.toNat : Int) := by omega
   rw [h3] at h2
   have h4 : (byteAt ((val r * 256 + c.toNat : Nat) : Int)).toNat = c.toNat := by omega
   rw [UInt8.toNat_inj.1 h4]
theorem val_cons (c : UInt8) (t : List UInt8) : val (c :: t) = c.toNat * 256 ^ t.length + val t := by
 have key : ∀ (t : List UInt8) (n : Nat), t.foldl (fun n b => n * 256 + b.toNat) n = n * 256 ^ t.length + val t := by
  intro t
  induction t with
  | nil => intro n; simp [val]
  | cons d r ih =>
   intro n
   have h1 := ih (n * 256 + d.toNat)
   have h2 := ih d.toNat
   simp only [List.foldl_cons, List.length_cons, val] at *
   rw [h1]
   simp only [Nat.zero_mul, Nat.zero_add] at *
   rw [h2, Nat.add_mul, Nat.pow_succ]
   rw [Nat.mul_assoc, Nat.mul_comm 256 (256 ^ r.length)]
   omega
 have := key t c.toNat
 simpa [val] using this
theorem szN_val (t : List UInt8) (h5 : t.length ≤ 5) (h0 : t.head? ≠ some 0) : szN (val t) = t.length := by
 have hu := val_lt t
 cases t with
 | nil => decide
 | cons c r =>
  have hc : 1 ≤ c.toNat := by
   rcases Nat.eq_zero_or_pos c.toNat with e | e
   ·exact (h0 (by simp only [List.head?_cons]; congr 1; exact UInt8.toNat_inj.1 (by simpa using e))).elim
   ·exact e
  have hl : 256 ^ r.length ≤ val (c :: r) := by
   rw [val_cons]
   have := Nat.mul_le_mul_right (256 ^ r.length) hc
   omega
  simp only [List.length_cons] at hu h5 ⊢
  generalize val (c :: r) = v at *
  generalize r.length = k at *
  have hk : k = 0 ∨ k = 1 ∨ k = 2 ∨ k = 3 ∨ k = 4 := by omega
  unfold szN
  rcases hk with rfl | rfl | rfl | rfl | rfl
  all_goals
   simp only [Nat.pow_zero, Nat.reducePow, Nat.reduceAdd] at hl hu
   repeat (first | rw [if_pos (by omega)] | rw [if_neg (by omega)])
theorem numP_back {m : Int} {s : List UInt8} {n : Int} {r : List UInt8} (h : numP m s = .ok (n, r)) : numB n ++ r = s ∧ 0 ≤ n ∧ n ≤ m ∧ n < 1099511627776 := by
 cases s with
 | nil => cases h
 | cons c q =>
  rw [numP] at h
  split at h
  ·cases h
  ·rename_i h1
   split at h
   ·cases h
   ·rename_i h2
    split at h
    ·cases h
    ·rename_i h3
     split at h
     ·cases h
     ·rename_i h4
      injection h with h
      injection h with e1 e2
      subst e1 e2
      have hl : (q.take c.toNat).length = c.toNat := by rw [List.length_take]; omega
      have hs := szN_val (q.take c.toNat) (by omega) h3
      rw [hl] at hs
      have hb := be_val c.toNat (q.take c.toNat) hl
      have hlt := val_lt (q.take c.toNat)
      rw [hl] at hlt
      have hp : 256 ^ c.toNat ≤ 256 ^ 5 := Nat.pow_le_pow_right (by omega) (by omega)
      refine ⟨?_, by omega, by omega, by omega⟩
      unfold numB
      rw [hs, hb, List.cons_append, List.take_append_drop]
      congr 1
      exact UInt8.toNat_inj.1 (by rw [UInt8.toNat_ofNat']; have := c.toNat_lt; omega)
theorem flagP_back {s : List UInt8} {x : Bool} {r : List UInt8} (h : flagP s = .ok (x, r)) : flagB x ++ r = s := by
 cases s with
 | nil => cases h
 | cons c q =>
  rw [flagP] at h
  split at h
  ·cases h
  ·rename_i h1
   injection h with h
   injection h with e1 e2
   subst e1 e2
   have hc : c.toNat = 0 ∨ c.toNat = 1 := by omega
   rcases hc with hc | hc
   ·have : c = 0 := UInt8.toNat_inj.1 (by simpa using hc)
    subst this; rfl
   ·have : c = 1 := UInt8.toNat_inj.1 (by simpa using hc)
    subst this; rfl
theorem digP_back {s : List UInt8} {n : Int} {r : List UInt8} (h : digP s = .ok (n, r)) : be n 8 ++ r = s ∧ 0 ≤ n ∧ n ≤ 18446744073709551615 := by
 unfold digP at h
 split at h
 ·cases h
 ·rename_i h1
  injection h with h
  injection h with e1 e2
  subst e1 e2
  have hl : (s.take 8).length = 8 := by rw [List.length_take]; omega
  have hlt := val_lt (s.take 8)
  rw [hl] at hlt
  exact ⟨by rw [be_val 8 _ hl, List.take_append_drop], by omega, by omega⟩
theorem textP_back {m : Int} {s t r : List UInt8} (h : textP m s = .ok (t, r)) : numB t.length ++ t ++ r = s ∧ (t.length : Int) ≤ m := by
 unfold textP at h
 cases hn : numP m s with
 | error e => rw [hn] at h; cases h
 | ok p =>
  obtain ⟨n, q⟩ := p
  rw [hn] at h
  simp only at h
  split at h
  ·cases h
  ·rename_i h1
   injection h with h
   injection h with e1 e2
   subst e1 e2
   obtain ⟨b1, b2, b3, _⟩ := numP_back hn
   have hl : (q.take n.toNat).length = n.toNat := by rw [List.length_take]; omega
   rw [hl]
   have e3 : ((n.toNat : Nat) : Int) = n := by omega
   rw [e3, List.append_assoc, List.take_append_drop]
   exact ⟨b1, b3⟩
theorem rep_back {f : List UInt8 → Rs (List Pv)} {at_ : List Pv → List Atom} (hf : ∀ s v r, f s = .ok (v, r) → encL (at_ v) ++ r = s ∧ okL (at_ v) = true) : ∀ (n : Nat) (s : List UInt8) (xs : List (List Pv)) (r : List UInt8), rep f n s = .ok (xs, r) → encL (eachL at_ xs) ++ r = s ∧ okL (eachL at_ xs) = true ∧ xs.length = n
 | 0, s, xs, r, h => by
  injection h with h
  injection h with e1 e2
  subst e1 e2
  exact ⟨rfl, rfl, rfl⟩
 | n + 1, s, xs, r, h => by
  rw [rep] at h
  cases hx : f s with
  | error e => rw [hx] at h; cases h
  | ok p =>
   obtain ⟨x, q⟩ := p
   rw [hx] at h
   simp only at h
   cases hr : rep f n q with
   | error e => rw [hr] at h; cases h
   | ok p2 =>
    obtain ⟨ys, q2⟩ := p2
    rw [hr] at h
    simp only at h
    injection h with h
    injection h with e1 e2
    subst e1 e2
    obtain ⟨a1, a2⟩ := hf s x q hx
    obtain ⟨b1, b2, b3⟩ := rep_back hf n q ys q2 hr
    refine ⟨?_, ?_, by simp [b3]⟩
    ·rw [eachL, encL_append, List.append_assoc, b1, a1]
    ·rw [eachL, okL_append, a2, b2]; rfl
mutual
theorem Sc.back : ∀ (c : Sc) (s : List UInt8) (v : Pv) (r : List UInt8), c.read s = .ok (v, r) → encL (c.atoms v) ++ r = s ∧ okL (c.atoms v) = true
 | .num m, s, v, r, h => by
  rw [Sc.read] at h
  cases hn : numP m s with
  | error e => rw [hn] at h; cases h
  | ok p =>
   obtain ⟨n, q⟩ := p
   rw [hn] at h
   simp only at h
   injection h with h
   injection h with e1 e2
   subst e1 e2
   obtain ⟨b1, b2, b3, _⟩ := numP_back hn
   simp [Sc.atoms, encL, Atom.enc, okL, Atom.ok, b1, b2, b3]
 | .flag, s, v, r, h => by
  rw [Sc.read] at h
  cases hn : flagP s with
  | error e => rw [hn] at h; cases h
  | ok p =>
   obtain ⟨n, q⟩ := p
   rw [hn] at h
   simp only at h
   injection h with h
   injection h with e1 e2
   subst e1 e2
   have b1 := flagP_back hn
   simp [Sc.atoms, flagL, encL, Atom.enc, okL, Atom.ok, b1]
 | .dig, s, v, r, h => by
  rw [Sc.read] at h
  cases hn : digP s with
  | error e => rw [hn] at h; cases h
  | ok p =>
   obtain ⟨n, q⟩ := p
   rw [hn] at h
   simp only at h
   injection h with h
   injection h with e1 e2
   subst e1 e2
   obtain ⟨b1, b2, b3⟩ := digP_back hn
   simp [Sc.atoms, digL, encL, Atom.enc, okL, Atom.ok, b1]
 | .text m, s, v, r, h => by
  rw [Sc.read] at h
  cases hn : textP m s with
  | error e => rw [hn] at h; cases h
  | ok p =>
   obtain ⟨n, q⟩ := p
   rw [hn] at h
   simp only at h
   injection h with h
   injection h with e1 e2
   subst e1 e2
   obtain ⟨b1, b2⟩ := textP_back hn
   refine ⟨?_, ?_⟩
   ·simp only [Sc.atoms, textL, encL, Atom.enc, List.append_nil]
    exact b1
   ·simp only [Sc.atoms, textL, okL, Atom.ok, Bool.and_true, Bool.and_eq_true, decide_eq_true_eq]
    omega
 | .list m els, s, v, r, h => by
  rw [Sc.read] at h
  cases hn : numP m s with
  | error e => rw [hn] at h; cases h
  | ok p =>
   obtain ⟨n, q⟩ := p
   rw [hn] at h
   simp only at h
   cases hr : rep (readAll els) n.toNat q with
   | error e => rw [hr] at h; cases h
   | ok p2 =>
    obtain ⟨es, q2⟩ := p2
    rw [hr] at h
    simp only at h
    injection h with h
    injection h with e1 e2
    subst e1 e2
    obtain ⟨b1, b2, b3, _⟩ := numP_back hn
    obtain ⟨c1, c2, c3⟩ := rep_back (at_ := fun e => atomsAll els e) (fun s v r => readAll_back els s v r) n.toNat q es q2 hr
    have e3 : ((es.length : Nat) : Int) = n := by omega
    refine ⟨?_, ?_⟩
    ·simp only [Sc.atoms, encL, Atom.enc, e3, List.append_assoc]
     rw [c1, b1]
    ·simp only [Sc.atoms, okL, Atom.ok, e3, Bool.and_eq_true, decide_eq_true_eq]
     exact ⟨⟨b2, b3⟩, c2⟩
theorem readAll_back : ∀ (cs : List Sc) (s : List UInt8) (vs : List Pv) (r : List UInt8), readAll cs s = .ok (vs, r) → encL (atomsAll cs vs) ++ r = s ∧ okL (atomsAll cs vs) = true
 | [], s, vs, r, h => by
  rw [readAll] at h
  injection h with h
  injection h with e1 e2
  subst e1 e2
  exact ⟨rfl, rfl⟩
 | c :: cs, s, vs, r, h => by
  rw [readAll] at h
  cases hc : c.read s with
  | error e => rw [hc] at h; cases h
  | ok p =>
   obtain ⟨v, q⟩ := p
   rw [hc] at h
   simp only at h
   cases hr : readAll cs q with
   | error e => rw [hr] at h; cases h
   | ok p2 =>
    obtain ⟨us, q2⟩ := p2
    rw [hr] at h
    simp only at h
    injection h with h
    injection h with e1 e2
    subst e1 e2
    obtain ⟨a1, a2⟩ := Sc.back c s v q hc
    obtain ⟨b1, b2⟩ := readAll_back cs q us q2 hr
    refine ⟨?_, ?_⟩
    ·rw [atomsAll, encL_append, List.append_assoc, b1, a1]
    ·rw [atomsAll, okL_append, a2, b2]; rfl
end
def RdAt (w : World) (b : Nat) (rest : List UInt8) : Prop := Blk w b #[.bool true, .slice none 0 0, .string ⟨rest.toArray⟩] 185
theorem ext_take (l : List UInt8) (n : Nat) : (⟨l.toArray⟩ : ByteArray).extract 0 n = ⟨(l.take n).toArray⟩ := by
 apply ByteArray.ext
 rw [ByteArray.data_extract]
 apply Array.ext'
 simp [List.extract_eq_take_drop]
theorem ext_drop (l : List UInt8) (n : Nat) : (⟨l.toArray⟩ : ByteArray).extract n l.length = ⟨(l.drop n).toArray⟩ := by
 apply ByteArray.ext
 rw [ByteArray.data_extract]
 apply Array.ext'
 simp only [Array.toList_extract, List.toList_toArray, List.extract_eq_take_drop]
 rw [List.take_of_length_le (by simp)]
theorem str_size' (l : List UInt8) : (⟨l.toArray⟩ : ByteArray).size = l.length := by simp [ByteArray.size]
set_option maxHeartbeats 800000 in
theorem cut_any (b : Nat) (rest : List UInt8) (n : Nat) (w : World) (k : RdAt w b rest) (hn : n ≤ rest.length) (hL : rest.length ≤ 1099511627776) :
  Calls Tryz.prog 222 #[.pointer (some ⟨b, 0, none⟩), .int .i64 n] w fun e w' => e = .returned (.string ⟨(rest.take n).toArray⟩) ∧ RdAt w' b (rest.drop n) ∧ But (fun k => k = b) w w' := by
 have k' : Blk w b #[.bool true, .slice none 0 0, .string ⟨rest.toArray⟩] 185 := k
 have c2 := (k'.cell 2).trans rfl
 have f2 := k'.frozen 2
 have zb := k'.lt
 have sz := str_size' rest
 have hn' : (n : Int) ≤ (rest.length : Int) := by omega
 have hng : ¬ (rest.length : Int) < (n : Int) := by omega
 have h1 := ext_take rest n
 have h2 := ext_drop rest n
 have k2 := k'.set 2 (.string ⟨(rest.drop n).toArray⟩)
 have B := But.set (S := fun k => k = b) w (p := ⟨b, 2, none⟩) rfl (.string ⟨(rest.drop n).toArray⟩)
 generalize rest.length = L at *
 generalize rest.take n = A at *
 generalize rest.drop n = D at *
 go_enter Tryz.func222, Tryz.ntmps222
 go_wp2
 go_ret
 exact ⟨rfl, k2, B⟩
theorem wrap_u (n : Int) (h0 : 0 ≤ n) (h1 : n ≤ 18446744073709551615) : IntKind.u64.wrap n = n := by
 rw [IntKind.wrap_u64]; omega
theorem or_step (n b : Nat) (hn : n < 72057594037927936) (hb : b < 256) : bits BinOp.or IntKind.u64 (IntKind.u64.wrap ((n : Int) * 256)) (IntKind.u64.wrap (b : Int)) = ((n * 256 + b : Nat) : Int) := by
 rw [wrap_u _ (by omega) (by omega), wrap_u _ (by omega) (by omega)]
 have h := bits_or_u64_nat (n * 256) b (by omega) (by omega)
 rw [show ((n : Int) * 256) = ((n * 256 : Nat) : Int) by omega, h]
 have e := Nat.shiftLeft_add_eq_or_of_lt (b := b) (i := 8) (by omega) n
 rw [Nat.shiftLeft_eq] at e
 rw [← e]
theorem val_take (l : List UInt8) {i : Nat} (h : i < l.length) : val (l.take (i + 1)) = val (l.take i) * 256 + l[i].toNat := by
 rw [List.take_succ_eq_append_getElem h, val_snoc]
theorem val_take_lt (l : List UInt8) (i : Nat) (h : i ≤ 7) : val (l.take i) < 72057594037927936 := by
 have h1 := val_lt (l.take i)
 have h2 : (l.take i).length ≤ 7 := by rw [List.length_take]; omega
 have h3 : 256 ^ (l.take i).length ≤ 256 ^ 7 := Nat.pow_le_pow_right (by omega) h2
 omega
set_option maxHeartbeats 800000 in
theorem valueOf_any (l : List UInt8) (w : World) (hl : l.length ≤ 8) :
  Calls Tryz.prog 221 #[.string ⟨l.toArray⟩] w fun e w' => e = .returned (.int .u64 (val l)) ∧ w = w' := by
 have sz := str_size' l
 go_enter Tryz.func221, Tryz.ntmps221
 go_wp2
 go_loopw [3, 4, 7] (fun nv _ iv wv => ∃ (i n : Nat), i ≤ l.length ∧ iv = .int .i64 i ∧ nv = .int .u64 n ∧ Hid (n = val (l.take i)) ∧ w = wv) (fun _ _ iv _ => l.length - (intOf iv).toNat)
 case atStart => exact ⟨0, 0, Nat.zero_le _, rfl, rfl, rfl, rfl⟩
 case round =>
  obtain ⟨i, n, hi, rfl, rfl, HN, rfl⟩ := hrel
  by_cases hlt : i < l.length
  ·have hlt' : (i : Int) < (l.length : Int) := by omega
   go_wp2
   refine ⟨⟨i + 1, n * 256 + l[i].toNat, by omega, by go_num, ?_, ?_, trivial⟩, by simp [intOf]; omega⟩
   ·have hb : l[i].toNat < 256 := l[i].toNat_lt
    have hn : n < 72057594037927936 := by rw [HN.out]; exact val_take_lt l i (by omega)
    exact congrArg (Value.int .u64) (or_step n _ hn hb)
   ·show _ = _
    rw [val_take l hlt, ← HN.out]
  ·have hge : ¬ (i : Int) < (l.length : Int) := by omega
   go_wp2
   go_ret
   have : l.take i = l := List.take_of_length_le (by omega)
   have h := HN.out
   rw [this] at h
   exact ⟨by rw [← h]; rfl, rfl⟩
theorem but_set (w : World) (b i : Nat) (v : Value) : But (fun k => k = b) w (w.setCell ⟨b, i, none⟩ v) := But.set (S := fun k => k = b) w (p := ⟨b, i, none⟩) rfl v
structure Rd (b xb : Nat) (cs : Array Value) (t : TypeId) (r : List UInt8) (w w' : World) : Prop where
 rd : RdAt w' b r
 x : Blk w' xb cs t
 but : But (fun k => k = b ∨ k = xb) w w'
theorem set_get (cs : Array Value) (j : Nat) (v : Value) (h : j < cs.size) : (cs.setIfInBounds j v)[j]? = some v := by simp [h]
theorem Rd.trans {b xb : Nat} {cs cs2 : Array Value} {t : TypeId} {r r2 : List UInt8} {w w1 w2 : World} (h : Rd b xb cs t r w w1) (k : Rd b xb cs2 t r2 w1 w2) : Rd b xb cs2 t r2 w w2 := ⟨k.rd, k.x, h.but.trans k.but⟩
mutual
def Fld.pv : Fld → Pv
 | .i n => .i n
 | .d n => .d n
 | .b x => .b x
 | .s t => .s t
 | .l _ _ es => .l (pvRows es)
def pvRows : List (List Fld) → List (List Pv)
 | [] => []
 | e :: es => pvAll e :: pvRows es
def pvAll : List Fld → List Pv
 | [] => []
 | f :: fs => f.pv :: pvAll fs
end
theorem pvAll_app : ∀ (l m : List Fld), pvAll (l ++ m) = pvAll l ++ pvAll m
 | [], m => rfl
 | f :: fs, m => by
  show f.pv :: pvAll (fs ++ m) = _
  rw [pvAll_app fs m]; rfl
theorem pvRows_app : ∀ (l m : List (List Fld)), pvRows (l ++ m) = pvRows l ++ pvRows m
 | [], m => rfl
 | f :: fs, m => by
  show pvAll f :: pvRows (fs ++ m) = _
  rw [pvRows_app fs m]; rfl
theorem pvAll_len : ∀ (l : List Fld), (pvAll l).length = l.length
 | [] => rfl
 | f :: fs => by simp [pvAll, pvAll_len fs]
theorem pvRows_len : ∀ (l : List (List Fld)), (pvRows l).length = l.length
 | [] => rfl
 | f :: fs => by simp [pvRows, pvRows_len fs]
theorem pvRows_map : ∀ (l : List (List Fld)), pvRows l = l.map pvAll
 | [] => rfl
 | f :: fs => by simp [pvRows, pvRows_map fs]
mutual
def Fld.lies (lo : Nat) (w : World) : Fld → Prop
 | .i n => -9223372036854775808 ≤ n ∧ n ≤ 9223372036854775807
 | .d n => 0 ≤ n ∧ n ≤ 18446744073709551615
 | .b _ => True
 | .s _ => True
 | .l la lc es => es.length ≤ lc ∧ lc ≤ maxLen ∧ (es = [] ∨ ∃ rb ro, la = some ⟨rb, ro, none⟩ ∧ lo ≤ rb ∧ rb < w.heap.size ∧ rowsLie lo w rb ro es)
def rowsLie (lo : Nat) (w : World) (rb : Nat) : Nat → List (List Fld) → Prop
 | _, [] => True
 | ro, e :: es => cellsLie lo w rb ro e ∧ rowsLie lo w rb (ro + e.length) es
def cellsLie (lo : Nat) (w : World) (rb : Nat) : Nat → List Fld → Prop
 | _, [] => True
 | o, f :: fs => w.cell? ⟨rb, o, none⟩ = some f.val ∧ f.lies lo w ∧ cellsLie lo w rb (o + 1) fs
end
structure Hi (lo : Nat) (w w' : World) : Prop where
 size : w.heap.size ≤ w'.heap.size
 block : ∀ k, lo ≤ k → k < w.heap.size → w'.heap[k]? = w.heap[k]?
theorem Hi.of_but {S : Nat → Prop} {lo : Nat} {w w' : World} (h : But S w w') (hs : ∀ k, S k → k < lo) : Hi lo w w' := ⟨h.size, fun k h1 h2 => h.block k h2 (fun q => by have := hs k q; omega)⟩
theorem Hi.of_below {lo : Nat} {w w' : World} (h : Below w.heap.size w w') : Hi lo w w' := ⟨h.size, fun k _ h2 => h.block k h2⟩
mutual
theorem Fld.lies_hi {lo : Nat} {w w' : World} (hb : Hi lo w w') : ∀ f : Fld, f.lies lo w → f.lies lo w'
 | .i _, h => h
 | .d _, h => h
 | .b _, _ => trivial
 | .s _, _ => trivial
 | .l la lc es, h => by
  obtain ⟨h1, h2, h3⟩ := h
  refine ⟨h1, h2, ?_⟩
  rcases h3 with h3 | ⟨rb, ro, e, hl, hz, hr⟩
  ·exact .inl h3
  ·exact .inr ⟨rb, ro, e, hl, Nat.lt_of_lt_of_le hz hb.size, rowsLie_hi hb rb hl hz ro es hr⟩
theorem rowsLie_hi {lo : Nat} {w w' : World} (hb : Hi lo w w') (rb : Nat) (hl : lo ≤ rb) (hz : rb < w.heap.size) : ∀ (ro : Nat) (es : List (List Fld)), rowsLie lo w rb ro es → rowsLie lo w' rb ro es
 | _, [], _ => trivial
 | ro, e :: es, h => ⟨cellsLie_hi hb rb hl hz ro e h.1, rowsLie_hi hb rb hl hz (ro + e.length) es h.2⟩
theorem cellsLie_hi {lo : Nat} {w w' : World} (hb : Hi lo w w') (rb : Nat) (hl : lo ≤ rb) (hz : rb < w.heap.size) : ∀ (o : Nat) (fs : List Fld), cellsLie lo w rb o fs → cellsLie lo w' rb o fs
 | _, [], _ => trivial
 | o, f :: fs, h => ⟨(World.cell?_of_block (w := w) (a := ⟨rb, o, none⟩) (hb.block rb hl hz)).trans h.1, Fld.lies_hi hb f h.2.1, cellsLie_hi hb rb hl hz (o + 1) fs h.2.2⟩
end
mutual
theorem Fld.lies_mono {lo lo' : Nat} {w : World} (hb : lo' ≤ lo) : ∀ f : Fld, f.lies lo w → f.lies lo' w
 | .i _, h => h
 | .d _, h => h
 | .b _, _ => trivial
 | .s _, _ => trivial
 | .l la lc es, h => by
  obtain ⟨h1, h2, h3⟩ := h
  refine ⟨h1, h2, ?_⟩
  rcases h3 with h3 | ⟨rb, ro, e, hl, hz, hr⟩
  ·exact .inl h3
  ·exact .inr ⟨rb, ro, e, Nat.le_trans hb hl, hz, rowsLie_mono hb rb ro es hr⟩
theorem rowsLie_mono {lo lo' : Nat} {w : World} (hb : lo' ≤ lo) (rb : Nat) : ∀ (ro : Nat) (es : List (List Fld)), rowsLie lo w rb ro es → rowsLie lo' w rb ro es
 | _, [], _ => trivial
 | ro, e :: es, h => ⟨cellsLie_mono hb rb ro e h.1, rowsLie_mono hb rb (ro + e.length) es h.2⟩
theorem cellsLie_mono {lo lo' : Nat} {w : World} (hb : lo' ≤ lo) (rb : Nat) : ∀ (o : Nat) (fs : List Fld), cellsLie lo w rb o fs → cellsLie lo' w rb o fs
 | _, [], _ => trivial
 | o, f :: fs, h => ⟨h.1, Fld.lies_mono hb f h.2.1, cellsLie_mono hb rb (o + 1) fs h.2.2⟩
end
mutual
theorem Fld.lies_good {lo : Nat} {w : World} : ∀ f : Fld, f.lies lo w → f.good w.heap.size w
 | .i _, h => h
 | .d _, h => h
 | .b _, _ => trivial
 | .s _, _ => trivial
 | .l la lc es, h => by
  obtain ⟨h1, h2, h3⟩ := h
  refine ⟨h1, h2, ?_⟩
  rcases h3 with h3 | ⟨rb, ro, e, hl, hz, hr⟩
  ·exact .inl h3
  ·exact .inr ⟨rb, ro, e, hz, hz, rowsLie_good rb ro es hr⟩
theorem rowsLie_good {lo : Nat} {w : World} (rb : Nat) : ∀ (ro : Nat) (es : List (List Fld)), rowsLie lo w rb ro es → RowsAt w.heap.size w rb ro es
 | _, [], _ => trivial
 | ro, e :: es, h => ⟨cellsLie_good rb ro e h.1, rowsLie_good rb (ro + e.length) es h.2⟩
theorem cellsLie_good {lo : Nat} {w : World} (rb : Nat) : ∀ (o : Nat) (fs : List Fld), cellsLie lo w rb o fs → CellsAt w.heap.size w rb o fs
 | _, [], _ => trivial
 | o, f :: fs, h => ⟨h.1, Fld.lies_good f h.2.1, cellsLie_good rb (o + 1) fs h.2.2⟩
end
def lieAll (lo : Nat) (w : World) (fs : List Fld) : Prop := ∀ f ∈ fs, f.lies lo w
theorem lieAll.hi {lo : Nat} {w w' : World} {fs : List Fld} (h : lieAll lo w fs) (hb : Hi lo w w') : lieAll lo w' fs := fun f hf => Fld.lies_hi hb f (h f hf)
theorem lieAll.mono {lo lo' : Nat} {w : World} {fs : List Fld} (h : lieAll lo w fs) (hb : lo' ≤ lo) : lieAll lo' w fs := fun f hf => Fld.lies_mono hb f (h f hf)
theorem lieAll.goods {lo : Nat} {w : World} {fs : List Fld} (h : lieAll lo w fs) : goods w.heap.size w fs := fun f hf => Fld.lies_good f (h f hf)
theorem lieAll.app {lo : Nat} {w : World} {fs gs : List Fld} (h : lieAll lo w fs) (g : lieAll lo w gs) : lieAll lo w (fs ++ gs) := fun f hf => (List.mem_append.1 hf).elim (h f) (g f)
theorem lieAll.nil (lo : Nat) (w : World) : lieAll lo w [] := fun f hf => by cases hf
theorem cellsLie_mk {lo : Nat} {w : World} {rb : Nat} : ∀ {o : Nat} {fs : List Fld}, (∀ i f, fs[i]? = some f → w.cell? ⟨rb, o + i, none⟩ = some f.val) → lieAll lo w fs → cellsLie lo w rb o fs
 | _, [], _, _ => trivial
 | o, f :: fs, h, g => ⟨h 0 f rfl, g f (by simp), cellsLie_mk (fun i f' hi => by
   have := h (i + 1) f' (by simpa using hi)
   rw [show o + 1 + i = o + (i + 1) by omega]
   exact this) fun f' hf => g f' (by simp [hf])⟩
theorem rowsLie_mk {lo : Nat} {w : World} {rb : Nat} (sz : Nat) : ∀ {ro : Nat} {es : List (List Fld)}, (∀ e ∈ es, e.length = sz) → (∀ i e, es[i]? = some e → cellsLie lo w rb (ro + i * sz) e) → rowsLie lo w rb ro es
 | _, [], _, _ => trivial
 | ro, e :: es, hz, h => by
  refine ⟨by have := h 0 e rfl; rwa [Nat.zero_mul, Nat.add_zero] at this, rowsLie_mk sz (fun x hx => hz x (by simp [hx])) fun i x hi => ?_⟩
  have := h (i + 1) x (by simpa using hi)
  rw [hz e (by simp), show ro + sz + i * sz = ro + (i + 1) * sz by rw [Nat.add_mul]; omega]
  exact this
def putAt : Array Value → Nat → List Value → Array Value
 | cs, _, [] => cs
 | cs, o, v :: vs => putAt (cs.setIfInBounds o v) (o + 1) vs
theorem putAt_size : ∀ (vs : List Value) (cs : Array Value) (o : Nat), (putAt cs o vs).size = cs.size
 | [], cs, o => rfl
 | v :: vs, cs, o => by rw [putAt, putAt_size vs]; simp
theorem putAt_app : ∀ (a b : List Value) (cs : Array Value) (o : Nat), putAt cs o (a ++ b) = putAt (putAt cs o a) (o + a.length) b
 | [], b, cs, o => rfl
 | v :: a, b, cs, o => by
  show putAt _ (o + 1) (a ++ b) = _
  rw [putAt_app a b, putAt, List.length_cons, show o + 1 + a.length = o + (a.length + 1) by omega]
theorem putAt_off : ∀ (vs : List Value) (cs : Array Value) (o j : Nat), j < o ∨ o + vs.length ≤ j → (putAt cs o vs)[j]? = cs[j]?
 | [], cs, o, j, h => rfl
 | v :: vs, cs, o, j, h => by
  rw [putAt, putAt_off vs _ (o + 1) j (by simp only [List.length_cons] at h; omega)]
  rw [Array.getElem?_setIfInBounds]
  simp only [List.length_cons] at h
  rw [if_neg (by omega)]
theorem putAt_in : ∀ (vs : List Value) (cs : Array Value) (o i : Nat), o + vs.length ≤ cs.size → i < vs.length → (putAt cs o vs)[o + i]? = vs[i]?
 | [], cs, o, i, h, hi => by cases hi
 | v :: vs, cs, o, 0, h, hi => by
  rw [putAt, putAt_off vs _ (o + 1) (o + 0) (by omega)]
  simp only [List.length_cons] at h
  rw [Nat.add_zero, Array.getElem?_setIfInBounds, if_pos rfl, if_pos (by omega)]
  rfl
 | v :: vs, cs, o, i + 1, h, hi => by
  rw [putAt, show o + (i + 1) = o + 1 + i by omega]
  rw [putAt_in vs _ (o + 1) i (by simp only [List.length_cons, Array.size_setIfInBounds] at h ⊢; omega) (by simpa using hi)]
  rfl
def Sc.zero : Sc → Value
 | .num _ => .int .i64 0
 | .flag => .bool false
 | .dig => .int .u64 0
 | .text _ => .string ⟨#[]⟩
 | .list _ _ => .slice none 0 0
def ZeroAt (cs : Array Value) (o : Nat) (scs : List Sc) : Prop := ∀ j c, scs[j]? = some c → cs[o + j]? = some c.zero
theorem ZeroAt.left {cs : Array Value} {o : Nat} {a b : List Sc} (h : ZeroAt cs o (a ++ b)) : ZeroAt cs o a := fun j c hj => h j c (by
 rw [List.getElem?_append_left (List.getElem?_eq_some_iff.1 hj).1]; exact hj)
theorem ZeroAt.right {cs : Array Value} {o : Nat} {a b : List Sc} {vs : List Value} (h : ZeroAt cs o (a ++ b)) (hl : vs.length = a.length) : ZeroAt (putAt cs o vs) (o + a.length) b := fun j c hj => by
 rw [putAt_off _ _ _ _ (by omega)]
 have := h (a.length + j) c (by rw [List.getElem?_append_right (by omega), Nat.add_sub_cancel_left]; exact hj)
 rw [← this, Nat.add_assoc]
theorem ZeroAt.size {cs : Array Value} {o : Nat} {scs : List Sc} (h : ZeroAt cs o scs) (hp : scs ≠ []) : o + scs.length ≤ cs.size := by
 have hl : 0 < scs.length := List.length_pos_iff.2 hp
 have h1 := h (scs.length - 1) (scs[scs.length - 1]'(by omega)) (List.getElem?_eq_getElem (by omega))
 have := (Array.getElem?_eq_some_iff.1 h1).1
 omega
def refusedE (er : Int) : Ending := .panicked [{ v := .iface 297 (.int .i64 er), recovered := false }]
def RdE (b xb o : Nat) (cs : Array Value) (t : TypeId) (scs : List Sc) (s : List UInt8) (w : World) (e : Ending) (w' : World) : Prop :=
 But (fun k => k = b ∨ k = xb) w w' ∧ ((∃ er, readAll scs s = .error er ∧ e = refusedE er) ∨
  ∃ fs r, readAll scs s = .ok (pvAll fs, r) ∧ e = .returned (.tuple #[]) ∧ RdAt w' b r ∧ Blk w' xb (putAt cs o (fs.map Fld.val)) t ∧ lieAll w.heap.size w' fs)
theorem readAll_len : ∀ (cs : List Sc) (s : List UInt8) (vs : List Pv) (r : List UInt8), readAll cs s = .ok (vs, r) → vs.length = cs.length
 | [], s, vs, r, h => by
  rw [readAll] at h
  injection h with h
  injection h with e1 e2
  subst e1
  rfl
 | c :: cs, s, vs, r, h => by
  rw [readAll] at h
  cases hc : c.read s with
  | error e => rw [hc] at h; cases h
  | ok p =>
   obtain ⟨v, q⟩ := p
   rw [hc] at h
   simp only at h
   cases hr : readAll cs q with
   | error e => rw [hr] at h; cases h
   | ok p2 =>
    obtain ⟨us, q2⟩ := p2
    rw [hr] at h
    simp only at h
    injection h with h
    injection h with e1 e2
    subst e1
    simp [readAll_len cs q us q2 hr]
theorem readAll_short (cs : List Sc) (s : List UInt8) (vs : List Pv) (r : List UInt8) (h : readAll cs s = .ok (vs, r)) : r.length ≤ s.length := by
 have := (readAll_back cs s vs r h).1
 rw [← this, List.length_append]
 omega
theorem RdE.fails {b xb o : Nat} {cs : Array Value} {t : TypeId} {x y : List Sc} {s : List UInt8} {w w' : World} {er : Int} (hb : But (fun k => k = b ∨ k = xb) w w') (h : readAll x s = .error er) : RdE b xb o cs t (x ++ y) s w (refusedE er) w' :=
 ⟨hb, .inl ⟨er, by rw [readAll_app, h]; rfl, rfl⟩⟩
theorem RdE.seq {b xb o : Nat} {cs : Array Value} {t : TypeId} {x y : List Sc} {s r : List UInt8} {w w1 w' : World} {e : Ending} {fs : List Fld} (hb : But (fun k => k = b ∨ k = xb) w w1) (hz : b < w.heap.size) (hx : xb < w.heap.size) (h : readAll x s = .ok (pvAll fs, r)) (hl : lieAll w.heap.size w1 fs)
  (h2 : RdE b xb (o + x.length) (putAt cs o (fs.map Fld.val)) t y r w1 e w') : RdE b xb o cs t (x ++ y) s w e w' := by
 obtain ⟨hb2, h2⟩ := h2
 refine ⟨hb.trans hb2, ?_⟩
 have hlen : fs.length = x.length := by rw [← pvAll_len]; exact readAll_len x s _ r h
 rcases h2 with ⟨er, h3, h4⟩ | ⟨gs, q, h3, h4, h5, h6, h7⟩
 ·exact .inl ⟨er, by rw [readAll_app, h]; simp only [andR, h3], h4⟩
 ·refine .inr ⟨fs ++ gs, q, ?_, h4, h5, ?_, ?_⟩
  ·rw [readAll_app, h]
   simp only [andR, h3, pvAll_app]
  ·rw [List.map_append, putAt_app, List.length_map, hlen]
   exact h6
  ·exact (hl.hi (Hi.of_but hb2 fun k q => by rcases q with q | q <;> omega)).app (h7.mono hb.size)
theorem RdE.nil {b xb o : Nat} {cs : Array Value} {t : TypeId} {s : List UInt8} {w : World} (k : RdAt w b s) (kx : Blk w xb cs t) : RdE b xb o cs t [] s w (.returned (.tuple #[])) w :=
 ⟨But.refl _ _, .inr ⟨[], s, by rw [readAll]; rfl, rfl, k, kx, lieAll.nil _ _⟩⟩
structure At (b xb o : Nat) (cs : Array Value) (t : TypeId) (scs : List Sc) (s : List UInt8) (w : World) : Prop where
 rd : RdAt w b s
 x : Blk w xb cs t
 ne : xb ≠ b
 z : ZeroAt cs o scs
 len : s.length ≤ 1099511627000
theorem At.lb {b xb o : Nat} {cs : Array Value} {t : TypeId} {scs : List Sc} {s : List UInt8} {w : World} (h : At b xb o cs t scs s w) : b < w.heap.size := Blk.lt h.rd
theorem At.left {b xb o : Nat} {cs : Array Value} {t : TypeId} {x y : List Sc} {s : List UInt8} {w : World} (h : At b xb o cs t (x ++ y) s w) : At b xb o cs t x s w := ⟨h.rd, h.x, h.ne, h.z.left, h.len⟩
theorem At.below {b xb o : Nat} {cs : Array Value} {t : TypeId} {scs : List Sc} {s : List UInt8} {w w' : World} (h : At b xb o cs t scs s w) (hb : Below w.heap.size w w') : At b xb o cs t scs s w' := ⟨Blk.below h.rd hb h.lb, h.x.below hb h.x.lt, h.ne, h.z, h.len⟩
theorem At.step {b xb o : Nat} {cs : Array Value} {t : TypeId} {x y : List Sc} {s : List UInt8} {w w1 : World} {e : Ending} (h : At b xb o cs t (x ++ y) s w) (hE : RdE b xb o cs t x s w e w1) :
  (∃ er, e = refusedE er ∧ RdE b xb o cs t (x ++ y) s w (refusedE er) w1) ∨ (e = .returned (.tuple #[]) ∧ ∃ cs1 s1, At b xb (o + x.length) cs1 t y s1 w1 ∧ ∀ e' w', RdE b xb (o + x.length) cs1 t y s1 w1 e' w' → RdE b xb o cs t (x ++ y) s w e' w') := by
 obtain ⟨hb, ⟨er, h1, rfl⟩ | ⟨fs, r, h1, rfl, h2, h3, h4⟩⟩ := hE
 ·exact .inl ⟨er, rfl, RdE.fails hb h1⟩
 ·have hlen : fs.length = x.length := by rw [← pvAll_len]; exact readAll_len x s _ r h1
  refine .inr ⟨rfl, _, r, ⟨h2, h3, h.ne, h.z.right (by rw [List.length_map]; exact hlen), Nat.le_trans (readAll_short x s _ r h1) h.len⟩, fun e' w' h5 => RdE.seq hb h.lb h.x.lt h1 h4 h5⟩
theorem RdE.below {b xb o : Nat} {cs : Array Value} {t : TypeId} {scs : List Sc} {s : List UInt8} {w w1 w' : World} {e : Ending} (hb : Below w.heap.size w w1) (h : RdE b xb o cs t scs s w1 e w') : RdE b xb o cs t scs s w e w' := by
 obtain ⟨h1, h2⟩ := h
 refine ⟨(But.of_below hb).trans h1, ?_⟩
 rcases h2 with h2 | ⟨fs, r, a1, a2, a3, a4, a5⟩
 ·exact .inl h2
 ·exact .inr ⟨fs, r, a1, a2, a3, a4, a5.mono hb.size⟩
def Reads (fn : Nat) (scs : List Sc) : Prop := ∀ (b xb o : Nat) (cs : Array Value) (t : TypeId) (s : List UInt8) (w : World), At b xb o cs t scs s w →
 Calls Tryz.prog fn #[.pointer (some ⟨b, 0, none⟩), .pointer (some ⟨xb, o, none⟩)] w fun e w' => RdE b xb o cs t scs s w e w'
end Go.Proofs.YtackcbpabjhmpaaGreat
