import Derived.Test.YtackcbpabjhmpaaGreatM05
import Derived.Test.YtackcbpabjhmpaaGreatXThings
namespace Go.Proofs.YtackcbpabjhmpaaGreat
open Go.RowKit
set_option linter.unusedVariables false
set_option linter.unusedSimpArgs false
abbrev numC : Sc := .num 1099511627775
abbrev pairSc : List Sc := [numC, numC]
def Header.sc : List Sc := List.replicate 2 numC ++ (List.replicate 6 .dig ++ ([numC]))
def Cert.sc : List Sc := List.replicate 3 numC ++ ([.flag] ++ ([.dig] ++ ([.list 7 [numC]])))
def Turn.sc : List Sc := [.num 287] ++ ([.dig])
def Proof.sc : List Sc := [.list 288 Turn.sc] ++ ([.flag] ++ ([.text 32] ++ ([.text 4096])))
def Sight.sc : List Sc := Header.sc ++ (Cert.sc ++ ([.list 7 pairSc]))
def Tx.sc : List Sc := List.replicate 7 numC ++ ([.text 2048] ++ ([.list 8 [numC]] ++ ([.list 1 Sight.sc] ++ ([.list 1 Proof.sc]))))
def Vote.sc : List Sc := List.replicate 3 numC ++ ([.flag] ++ ([.dig] ++ ([numC])))
def Guilt.sc : List Sc := Vote.sc ++ (Vote.sc)
def Block.sc : List Sc := Header.sc ++ ([.list 16 Tx.sc] ++ ([.list 4 Guilt.sc]))
def Motion.sc : List Sc := List.replicate 2 numC ++ (Block.sc ++ ([.list 1 Cert.sc]))
def Known.sc : List Sc := Cert.sc ++ (Block.sc)
def Message.sc : List Sc := List.replicate 3 numC ++ ([.list 512 Vote.sc] ++ ([.list 2 Motion.sc] ++ ([.list 2 Known.sc] ++ ([.list 16 Tx.sc]))))
def accSc : List Sc := List.replicate 6 numC ++ [.flag]
def parSc : List Sc := List.replicate 3 numC
def viewSc : List Sc := List.replicate 4 numC ++ ([.dig] ++ [.list 7 pairSc])
theorem info_parts3 {P : Program} {t : TypeId} {z : Value} {n : Nat} (h : (P.info? t).map (fun i => (i.zero, i.size, decide (i.bytes ≤ 1000))) = some (some z, n, true)) : ∃ i, P.info? t = some i ∧ i.zero = some z ∧ i.size = n ∧ decide (i.bytes ≤ 1000) = true := by
 cases hi : P.info? t with
 | none => rw [hi] at h; cases h
 | some i =>
  rw [hi] at h
  simp only [Option.map_some, Option.some.injEq, Prod.mk.injEq] at h
  exact ⟨i, rfl, h.1, h.2.1, h.2.2⟩
def AttE (R : Int → World → Prop) (w : World) (e : Ending) (w' : World) : Prop := ∃ er w1, R er w1 ∧ e = .returned (.int .i64 er) ∧ w' = w1.setCell ⟨w.heap.size, 0, none⟩ (.int .i64 er)
theorem numP_ne {m : Int} {s : List UInt8} {er : Int} (h : numP m s = .error er) : er ≠ 0 := by
 cases s with
 | nil => injection h with h; omega
 | cons c r =>
  rw [numP] at h
  split at h
  ·injection h with h; omega
  ·split at h
   ·injection h with h; omega
   ·split at h
    ·injection h with h; omega
    ·split at h
     ·injection h with h; omega
     ·cases h
theorem rep_ne {f : List UInt8 → Rs (List Pv)} (hf : ∀ s er, f s = .error er → er ≠ 0) : ∀ (n : Nat) (s : List UInt8) (er : Int), rep f n s = .error er → er ≠ 0
 | 0, s, er, h => by cases h
 | n + 1, s, er, h => by
  rw [rep] at h
  cases hx : f s with
  | error e =>
   rw [hx] at h
   injection h with h
   rw [← h]
   exact hf s e hx
  | ok p =>
   obtain ⟨x, q⟩ := p
   rw [hx] at h
   simp only at h
   cases hr : rep f n q with
   | error e =>
    rw [hr] at h
    injection h with h
    rw [← h]
    exact rep_ne hf n q e hr
   | ok p2 =>
    rw [hr] at h
    cases h
mutual
theorem Sc.read_ne : ∀ (c : Sc) (s : List UInt8) (er : Int), c.read s = .error er → er ≠ 0
 | .num m, s, er, h => by
  rw [Sc.read] at h
  cases hn : numP m s with
  | error e =>
   rw [hn] at h
   injection h with h
   rw [← h]
   exact numP_ne hn
  | ok p => rw [hn] at h; cases h
 | .flag, s, er, h => by
  rw [Sc.read] at h
  cases s with
  | nil => rw [flagP] at h; injection h with h; omega
  | cons c r =>
   rw [flagP] at h
   by_cases q : 1 < c.toNat
   ·rw [if_pos q] at h; injection h with h; omega
   ·rw [if_neg q] at h; cases h
 | .dig, s, er, h => by
  rw [Sc.read] at h
  unfold digP at h
  by_cases q : s.length < 8
  ·rw [if_pos q] at h; injection h with h; omega
  ·rw [if_neg q] at h; cases h
 | .text m, s, er, h => by
  rw [Sc.read] at h
  unfold textP at h
  cases hn : numP m s with
  | error e =>
   rw [hn] at h
   injection h with h
   rw [← h]
   exact numP_ne hn
  | ok p =>
   obtain ⟨n, r⟩ := p
   rw [hn] at h
   simp only at h
   by_cases q : r.length < n.toNat
   ·rw [if_pos q] at h; injection h with h; omega
   ·rw [if_neg q] at h; cases h
 | .list m els, s, er, h => by
  rw [Sc.read] at h
  cases hn : numP m s with
  | error e =>
   rw [hn] at h
   injection h with h
   rw [← h]
   exact numP_ne hn
  | ok p =>
   obtain ⟨n, r⟩ := p
   rw [hn] at h
   simp only at h
   cases hr : rep (readAll els) n.toNat r with
   | error e =>
    rw [hr] at h
    injection h with h
    rw [← h]
    exact rep_ne (fun s er => readAll_ne els s er) n.toNat r e hr
   | ok p2 => rw [hr] at h; cases h
theorem readAll_ne : ∀ (cs : List Sc) (s : List UInt8) (er : Int), readAll cs s = .error er → er ≠ 0
 | [], s, er, h => by rw [readAll] at h; cases h
 | c :: cs, s, er, h => by
  rw [readAll] at h
  cases hc : c.read s with
  | error e =>
   rw [hc] at h
   injection h with h
   rw [← h]
   exact Sc.read_ne c s e hc
  | ok p =>
   obtain ⟨v, q⟩ := p
   rw [hc] at h
   simp only at h
   cases hr : readAll cs q with
   | error e =>
    rw [hr] at h
    injection h with h
    rw [← h]
    exact readAll_ne cs q e hr
   | ok p2 => rw [hr] at h; cases h
end
def readWhole (scs : List Sc) (s : List UInt8) : Except Int (List Pv) :=
 match readAll scs s with
 | .error e => .error e
 | .ok (vs, r) => if r = [] then .ok vs else .error 4
def EndE (r : List UInt8) (w : World) (e : Ending) (w' : World) : Prop := ((r = [] ∧ e = .returned (.tuple #[])) ∨ (r ≠ [] ∧ e = refusedE 4)) ∧ w = w'
set_option maxHeartbeats 800000 in
theorem end_all (b : Nat) (r : List UInt8) (w : World) (k : RdAt w b r) : Calls Tryz.prog 121 #[.pointer (some ⟨b, 0, none⟩)] w fun e w' => EndE r w e w' := by
 have k' : Blk w b #[.bool true, .slice none 0 0, .string ⟨r.toArray⟩] 185 := k
 have c2 := (k'.cell 2).trans rfl
 have zb := k'.lt
 cases r with
 | nil =>
  go_enter Tryz.func121, Tryz.ntmps121
  go_wp2
  go_end0
  exact ⟨.inl ⟨rfl, rfl⟩, rfl⟩
 | cons c r =>
  go_enter Tryz.func121, Tryz.ntmps121
  go_wp2_with fail
  refine (refuse_any 4 _).mono ?_
  rintro e w1 ⟨rfl, rfl⟩
  go_wp2
  exact ⟨rfl, .inr ⟨by simp, rfl⟩, rfl⟩
def TriedE (b xb : Nat) (cs : Array Value) (t : TypeId) (scs : List Sc) (s : List UInt8) (w : World) (er : Int) (w1 : World) : Prop :=
 But (fun k => k = b ∨ k = xb) w w1 ∧ ((readWhole scs s = .error er ∧ er ≠ 0) ∨ (er = 0 ∧ ∃ fs, readWhole scs s = .ok (pvAll fs) ∧ Blk w1 xb (putAt cs 0 (fs.map Fld.val)) t ∧ lieAll w.heap.size w1 fs))
def Tried1 (b xb : Nat) (cs : Array Value) (t : TypeId) (scs : List Sc) (s : List UInt8) (w : World) (e : Ending) (w1 : World) : Prop :=
 (e = .returned (.tuple #[]) ∧ TriedE b xb cs t scs s w 0 w1) ∨ (∃ er, e = .panicked [{ v := .iface 297 (.int .i64 er), recovered := false }] ∧ TriedE b xb cs t scs s w er w1)
theorem tried_fail {b xb : Nat} {cs : Array Value} {t : TypeId} {scs : List Sc} {s : List UInt8} {w w1 : World} {er : Int} (hb : But (fun k => k = b ∨ k = xb) w w1) (h : readAll scs s = .error er) : Tried1 b xb cs t scs s w (refusedE er) w1 :=
 .inr ⟨er, rfl, hb, .inl ⟨by unfold readWhole; rw [h], readAll_ne scs s er h⟩⟩
theorem tried_end {b xb : Nat} {cs : Array Value} {t : TypeId} {scs : List Sc} {s r : List UInt8} {w w1 w2 : World} {e : Ending} {fs : List Fld} (hb : But (fun k => k = b ∨ k = xb) w w1) (h : readAll scs s = .ok (pvAll fs, r)) (hk : Blk w1 xb (putAt cs 0 (fs.map Fld.val)) t) (hl : lieAll w.heap.size w1 fs) (hE : EndE r w1 e w2) : Tried1 b xb cs t scs s w e w2 := by
 obtain ⟨hE, rfl⟩ := hE
 rcases hE with ⟨h1, h2⟩ | ⟨h1, h2⟩
 ·exact .inl ⟨h2, hb, .inr ⟨rfl, fs, by unfold readWhole; rw [h]; simp only; rw [if_pos h1], hk, hl⟩⟩
 ·exact .inr ⟨4, h2, hb, .inl ⟨by unfold readWhole; rw [h]; simp only; rw [if_neg h1], by omega⟩⟩
mutual
def Sc.fits : Sc → Fld → Prop
 | .num m, .i n => 0 ≤ n ∧ n ≤ m
 | .flag, .b _ => True
 | .dig, .d n => 0 ≤ n ∧ n ≤ 18446744073709551615
 | .text m, .s t => (t.length : Int) ≤ m
 | .list m els, .l _ _ es => (es.length : Int) ≤ m ∧ ∀ e ∈ es, fitsAll els e
 | _, _ => False
def fitsAll : List Sc → List Fld → Prop
 | [], [] => True
 | c :: cs, f :: fs => c.fits f ∧ fitsAll cs fs
 | _, _ => False
end
theorem fitsAll_app : ∀ {a b : List Sc} {f g : List Fld}, fitsAll a f → fitsAll b g → fitsAll (a ++ b) (f ++ g)
 | [], b, [], g, _, h2 => h2
 | [], b, _ :: _, g, h1, _ => by rw [fitsAll] at h1 <;> first | exact h1.elim | simp
 | c :: a, b, [], g, h1, _ => by rw [fitsAll] at h1 <;> first | exact h1.elim | simp
 | c :: a, b, f :: fs, g, h1, h2 => by
  rw [fitsAll] at h1
  show fitsAll (c :: (a ++ b)) (f :: (fs ++ g))
  rw [fitsAll]
  exact ⟨h1.1, fitsAll_app h1.2 h2⟩
theorem fitsAll_split : ∀ {a b : List Sc} {h : List Fld}, fitsAll (a ++ b) h → ∃ f g, h = f ++ g ∧ fitsAll a f ∧ fitsAll b g
 | [], b, h, q => ⟨[], h, rfl, by rw [fitsAll]; trivial, q⟩
 | c :: a, b, [], q => by
  have q : fitsAll (c :: (a ++ b)) [] := q
  rw [fitsAll] at q
  ·exact q.elim
  all_goals simp
 | c :: a, b, f :: fs, q => by
  have q : fitsAll (c :: (a ++ b)) (f :: fs) := q
  rw [fitsAll] at q
  obtain ⟨f1, g1, e1, h1, h2⟩ := fitsAll_split q.2
  exact ⟨f :: f1, g1, by rw [e1]; rfl, by rw [fitsAll]; exact ⟨q.1, h1⟩, h2⟩
theorem rep_all {f : List UInt8 → Rs (List Pv)} {P : List Pv → Prop} (hf : ∀ s v r, f s = .ok (v, r) → P v) : ∀ (n : Nat) (s : List UInt8) (xs : List (List Pv)) (r : List UInt8), rep f n s = .ok (xs, r) → xs.length = n ∧ ∀ x ∈ xs, P x
 | 0, s, xs, r, h => by
  injection h with h
  injection h with e1 e2
  subst e1
  exact ⟨rfl, fun x hx => by cases hx⟩
 | n + 1, s, xs, r, h => by
  rw [rep] at h
  cases hx : f s with
  | error e => rw [hx] at h; cases h
  | ok p =>
   obtain ⟨x, q⟩ := p
   rw [hx] at h
   simp only at h
   cases hr : rep f n q with
   | error e => rw [hr] at h; cases h
   | ok p2 =>
    obtain ⟨ys, q2⟩ := p2
    rw [hr] at h
    simp only at h
    injection h with h
    injection h with e1 e2
    subst e1
    obtain ⟨b1, b2⟩ := rep_all hf n q ys q2 hr
    refine ⟨by simp [b1], fun y hy => ?_⟩
    rcases List.mem_cons.1 hy with e | e
    ·rw [e]; exact hf s x q hx
    ·exact b2 y e
mutual
theorem Sc.read_fits : ∀ (c : Sc) (s : List UInt8) (f : Fld) (r : List UInt8), c.read s = .ok (f.pv, r) → c.fits f
 | .num m, s, f, r, h => by
  rw [Sc.read] at h
  cases hn : numP m s with
  | error e => rw [hn] at h; cases h
  | ok p =>
   obtain ⟨n, q⟩ := p
   rw [hn] at h
   simp only at h
   injection h with h
   injection h with e1 e2
   cases f with
   | i k =>
    injection e1 with e1
    subst e1
    have := numP_back hn
    rw [Sc.fits]
    exact ⟨this.2.1, this.2.2.1⟩
   | d k => cases e1
   | b k => cases e1
   | s k => cases e1
   | l a b c => cases e1
 | .flag, s, f, r, h => by
  rw [Sc.read] at h
  cases hn : flagP s with
  | error e => rw [hn] at h; cases h
  | ok p =>
   obtain ⟨n, q⟩ := p
   rw [hn] at h
   simp only at h
   injection h with h
   injection h with e1 e2
   cases f with
   | b k => rw [Sc.fits]; trivial
   | i k => cases e1
   | d k => cases e1
   | s k => cases e1
   | l a b c => cases e1
 | .dig, s, f, r, h => by
  rw [Sc.read] at h
  cases hn : digP s with
  | error e => rw [hn] at h; cases h
  | ok p =>
   obtain ⟨n, q⟩ := p
   rw [hn] at h
   simp only at h
   injection h with h
   injection h with e1 e2
   cases f with
   | d k =>
    injection e1 with e1
    subst e1
    have := digP_back hn
    rw [Sc.fits]
    exact ⟨this.2.1, this.2.2⟩
   | i k => cases e1
   | b k => cases e1
   | s k => cases e1
   | l a b c => cases e1
 | .text m, s, f, r, h => by
  rw [Sc.read] at h
  cases hn : textP m s with
  | error e => rw [hn] at h; cases h
  | ok p =>
   obtain ⟨n, q⟩ := p
   rw [hn] at h
   simp only at h
   injection h with h
   injection h with e1 e2
   cases f with
   | s k =>
    injection e1 with e1
    subst e1
    rw [Sc.fits]
    exact (textP_back hn).2
   | i k => cases e1
   | b k => cases e1
   | d k => cases e1
   | l a b c => cases e1
 | .list m els, s, f, r, h => by
  rw [Sc.read] at h
  cases hn : numP m s with
  | error e => rw [hn] at h; cases h
  | ok p =>
   obtain ⟨n, q⟩ := p
   rw [hn] at h
   simp only at h
   cases hr : rep (readAll els) n.toNat q with
   | error e => rw [hr] at h; cases h
   | ok p2 =>
    obtain ⟨es, q2⟩ := p2
    rw [hr] at h
    simp only at h
    injection h with h
    injection h with e1 e2
    cases f with
    | l la lc fs =>
     injection e1 with e1
     subst e1
     obtain ⟨b1, b2⟩ := rep_all (P := fun v => ∀ g, pvAll g = v → fitsAll els g) (fun s v r hv g hg => readAll_fits els s g r (by rw [hg]; exact hv)) n.toNat q (pvRows fs) q2 hr
     rw [pvRows_len] at b1
     have := numP_back hn
     rw [Sc.fits]
     refine ⟨by omega, fun e he => b2 (pvAll e) ?_ e rfl⟩
     rw [pvRows_map]
     exact List.mem_map.2 ⟨e, he, rfl⟩
    | i k => cases e1
    | b k => cases e1
    | d k => cases e1
    | s k => cases e1
theorem readAll_fits : ∀ (cs : List Sc) (s : List UInt8) (fs : List Fld) (r : List UInt8), readAll cs s = .ok (pvAll fs, r) → fitsAll cs fs
 | [], s, fs, r, h => by
  rw [readAll] at h
  injection h with h
  injection h with e1 e2
  cases fs with
  | nil => rw [fitsAll]; trivial
  | cons f fs => cases e1
 | c :: cs, s, fs, r, h => by
  rw [readAll] at h
  cases hc : c.read s with
  | error e => rw [hc] at h; cases h
  | ok p =>
   obtain ⟨v, q⟩ := p
   rw [hc] at h
   simp only at h
   cases hr : readAll cs q with
   | error e => rw [hr] at h; cases h
   | ok p2 =>
    obtain ⟨us, q2⟩ := p2
    rw [hr] at h
    simp only at h
    injection h with h
    injection h with e1 e2
    cases fs with
    | nil => cases e1
    | cons f fs =>
     injection e1 with e1 e3
     subst e1 e3
     rw [fitsAll]
     exact ⟨Sc.read_fits c s f q hc, readAll_fits cs q fs q2 hr⟩
end
theorem fits_num {m : Int} {f : Fld} (h : Sc.fits (.num m) f) : ∃ n, f = .i n := by
 cases f with
 | i n => exact ⟨n, rfl⟩
 | d n => rw [Sc.fits] at h <;> first | exact h.elim | simp
 | b n => rw [Sc.fits] at h <;> first | exact h.elim | simp
 | s n => rw [Sc.fits] at h <;> first | exact h.elim | simp
 | l a b c => rw [Sc.fits] at h <;> first | exact h.elim | simp
theorem fits_flag {f : Fld} (h : Sc.fits .flag f) : ∃ n, f = .b n := by
 cases f with
 | b n => exact ⟨n, rfl⟩
 | d n => rw [Sc.fits] at h <;> first | exact h.elim | simp
 | i n => rw [Sc.fits] at h <;> first | exact h.elim | simp
 | s n => rw [Sc.fits] at h <;> first | exact h.elim | simp
 | l a b c => rw [Sc.fits] at h <;> first | exact h.elim | simp
theorem fits_dig {f : Fld} (h : Sc.fits .dig f) : ∃ n, f = .d n := by
 cases f with
 | d n => exact ⟨n, rfl⟩
 | b n => rw [Sc.fits] at h <;> first | exact h.elim | simp
 | i n => rw [Sc.fits] at h <;> first | exact h.elim | simp
 | s n => rw [Sc.fits] at h <;> first | exact h.elim | simp
 | l a b c => rw [Sc.fits] at h <;> first | exact h.elim | simp
theorem fits_text {m : Int} {f : Fld} (h : Sc.fits (.text m) f) : ∃ n, f = .s n := by
 cases f with
 | s n => exact ⟨n, rfl⟩
 | b n => rw [Sc.fits] at h <;> first | exact h.elim | simp
 | i n => rw [Sc.fits] at h <;> first | exact h.elim | simp
 | d n => rw [Sc.fits] at h <;> first | exact h.elim | simp
 | l a b c => rw [Sc.fits] at h <;> first | exact h.elim | simp
theorem fits_list {m : Int} {els : List Sc} {f : Fld} (h : Sc.fits (.list m els) f) : ∃ la lc es, f = .l la lc es ∧ ∀ e ∈ es, fitsAll els e := by
 cases f with
 | l a b c => rw [Sc.fits] at h; exact ⟨a, b, c, rfl, h.2⟩
 | b n => rw [Sc.fits] at h <;> first | exact h.elim | simp
 | i n => rw [Sc.fits] at h <;> first | exact h.elim | simp
 | d n => rw [Sc.fits] at h <;> first | exact h.elim | simp
 | s n => rw [Sc.fits] at h <;> first | exact h.elim | simp
theorem fits_cons {c : Sc} {cs : List Sc} {fs : List Fld} (h : fitsAll (c :: cs) fs) : ∃ f gs, fs = f :: gs ∧ c.fits f ∧ fitsAll cs gs := by
 cases fs with
 | nil => rw [fitsAll] at h <;> first | exact h.elim | simp
 | cons f gs => rw [fitsAll] at h; exact ⟨f, gs, rfl, h.1, h.2⟩
theorem fits_nil {fs : List Fld} (h : fitsAll [] fs) : fs = [] := by
 cases fs with
 | nil => rfl
 | cons f gs => rw [fitsAll] at h <;> first | exact h.elim | simp
theorem lst_of {α : Type} {flds : α → List Fld} {els : List Sc} (hf : ∀ e, fitsAll els e → ∃ x : α, flds x = e) : ∀ (es : List (List Fld)), (∀ e ∈ es, fitsAll els e) → ∃ xs : List α, xs.map flds = es
 | [], _ => ⟨[], rfl⟩
 | e :: es, h => by
  obtain ⟨x, hx⟩ := hf e (h e (by simp))
  obtain ⟨xs, hxs⟩ := lst_of hf es fun d hd => h d (by simp [hd])
  exact ⟨x :: xs, by rw [List.map_cons, hx, hxs]⟩
theorem int_of (e : List Fld) (h : fitsAll [numC] e) : ∃ x : Int, intF x = e := by
 obtain ⟨f, gs, rfl, h1, h2⟩ := fits_cons h
 obtain ⟨n, rfl⟩ := fits_num h1
 rw [fits_nil h2]
 exact ⟨n, rfl⟩
theorem pair_of (e : List Fld) (h : fitsAll pairSc e) : ∃ x : Int × Int, pairF x = e := by
 obtain ⟨f, gs, rfl, h1, h2⟩ := fits_cons h
 obtain ⟨g, hs, rfl, h3, h4⟩ := fits_cons h2
 obtain ⟨n, rfl⟩ := fits_num h1
 obtain ⟨m, rfl⟩ := fits_num h3
 rw [fits_nil h4]
 exact ⟨(n, m), rfl⟩
theorem Header.of (e : List Fld) (h : fitsAll Header.sc e) : ∃ x : Header, x.flds = e := by
 obtain ⟨p0, q0, rfl, a0, b0⟩ := fitsAll_split (a := List.replicate 2 numC) (b := List.replicate 6 Sc.dig ++ ([numC])) h
 obtain ⟨fv0_0, gv0_0, rfl, cv0_0, dv0_0⟩ := fits_cons a0
 obtain ⟨nv0_0, rfl⟩ := fits_num cv0_0
 obtain ⟨fv0_1, gv0_1, rfl, cv0_1, dv0_1⟩ := fits_cons dv0_0
 obtain ⟨nv0_1, rfl⟩ := fits_num cv0_1
 obtain rfl := fits_nil dv0_1
 obtain ⟨p1, q1, rfl, a1, b1⟩ := fitsAll_split (a := List.replicate 6 Sc.dig) (b := [numC]) b0
 obtain ⟨fv1_0, gv1_0, rfl, cv1_0, dv1_0⟩ := fits_cons a1
 obtain ⟨nv1_0, rfl⟩ := fits_dig cv1_0
 obtain ⟨fv1_1, gv1_1, rfl, cv1_1, dv1_1⟩ := fits_cons dv1_0
 obtain ⟨nv1_1, rfl⟩ := fits_dig cv1_1
 obtain ⟨fv1_2, gv1_2, rfl, cv1_2, dv1_2⟩ := fits_cons dv1_1
 obtain ⟨nv1_2, rfl⟩ := fits_dig cv1_2
 obtain ⟨fv1_3, gv1_3, rfl, cv1_3, dv1_3⟩ := fits_cons dv1_2
 obtain ⟨nv1_3, rfl⟩ := fits_dig cv1_3
 obtain ⟨fv1_4, gv1_4, rfl, cv1_4, dv1_4⟩ := fits_cons dv1_3
 obtain ⟨nv1_4, rfl⟩ := fits_dig cv1_4
 obtain ⟨fv1_5, gv1_5, rfl, cv1_5, dv1_5⟩ := fits_cons dv1_4
 obtain ⟨nv1_5, rfl⟩ := fits_dig cv1_5
 obtain rfl := fits_nil dv1_5
 obtain ⟨fv2_0, gv2_0, rfl, cv2_0, dv2_0⟩ := fits_cons b1
 obtain ⟨nv2_0, rfl⟩ := fits_num cv2_0
 obtain rfl := fits_nil dv2_0
 exact ⟨⟨nv0_0, nv0_1, nv1_0, nv1_1, nv1_2, nv1_3, nv1_4, nv1_5, nv2_0⟩, rfl⟩
theorem Cert.of (e : List Fld) (h : fitsAll Cert.sc e) : ∃ x : Cert, x.flds = e := by
 obtain ⟨p0, q0, rfl, a0, b0⟩ := fitsAll_split (a := List.replicate 3 numC) (b := [Sc.flag] ++ ([Sc.dig] ++ ([Sc.list 7 [numC]]))) h
 obtain ⟨fv0_0, gv0_0, rfl, cv0_0, dv0_0⟩ := fits_cons a0
 obtain ⟨nv0_0, rfl⟩ := fits_num cv0_0
 obtain ⟨fv0_1, gv0_1, rfl, cv0_1, dv0_1⟩ := fits_cons dv0_0
 obtain ⟨nv0_1, rfl⟩ := fits_num cv0_1
 obtain ⟨fv0_2, gv0_2, rfl, cv0_2, dv0_2⟩ := fits_cons dv0_1
 obtain ⟨nv0_2, rfl⟩ := fits_num cv0_2
 obtain rfl := fits_nil dv0_2
 obtain ⟨p1, q1, rfl, a1, b1⟩ := fitsAll_split (a := [Sc.flag]) (b := [Sc.dig] ++ ([Sc.list 7 [numC]])) b0
 obtain ⟨fv1_0, gv1_0, rfl, cv1_0, dv1_0⟩ := fits_cons a1
 obtain ⟨nv1_0, rfl⟩ := fits_flag cv1_0
 obtain rfl := fits_nil dv1_0
 obtain ⟨p2, q2, rfl, a2, b2⟩ := fitsAll_split (a := [Sc.dig]) (b := [Sc.list 7 [numC]]) b1
 obtain ⟨fv2_0, gv2_0, rfl, cv2_0, dv2_0⟩ := fits_cons a2
 obtain ⟨nv2_0, rfl⟩ := fits_dig cv2_0
 obtain rfl := fits_nil dv2_0
 obtain ⟨fv3_0, gv3_0, rfl, cv3_0, dv3_0⟩ := fits_cons b2
 obtain ⟨lav3_0, lcv3_0, esv3_0, rfl, mv3_0⟩ := fits_list cv3_0
 obtain ⟨xsv3_0, rfl⟩ := lst_of int_of esv3_0 mv3_0
 obtain rfl := fits_nil dv3_0
 exact ⟨⟨nv0_0, nv0_1, nv0_2, nv1_0, nv2_0, ⟨lav3_0, lcv3_0, xsv3_0⟩⟩, rfl⟩
theorem Turn.of (e : List Fld) (h : fitsAll Turn.sc e) : ∃ x : Turn, x.flds = e := by
 obtain ⟨p0, q0, rfl, a0, b0⟩ := fitsAll_split (a := [Sc.num 287]) (b := [Sc.dig]) h
 obtain ⟨fv0_0, gv0_0, rfl, cv0_0, dv0_0⟩ := fits_cons a0
 obtain ⟨nv0_0, rfl⟩ := fits_num cv0_0
 obtain rfl := fits_nil dv0_0
 obtain ⟨fv1_0, gv1_0, rfl, cv1_0, dv1_0⟩ := fits_cons b0
 obtain ⟨nv1_0, rfl⟩ := fits_dig cv1_0
 obtain rfl := fits_nil dv1_0
 exact ⟨⟨nv0_0, nv1_0⟩, rfl⟩
theorem Proof.of (e : List Fld) (h : fitsAll Proof.sc e) : ∃ x : Proof, x.flds = e := by
 obtain ⟨p0, q0, rfl, a0, b0⟩ := fitsAll_split (a := [Sc.list 288 Turn.sc]) (b := [Sc.flag] ++ ([Sc.text 32] ++ ([Sc.text 4096]))) h
 obtain ⟨fv0_0, gv0_0, rfl, cv0_0, dv0_0⟩ := fits_cons a0
 obtain ⟨lav0_0, lcv0_0, esv0_0, rfl, mv0_0⟩ := fits_list cv0_0
 obtain ⟨xsv0_0, rfl⟩ := lst_of Turn.of esv0_0 mv0_0
 obtain rfl := fits_nil dv0_0
 obtain ⟨p1, q1, rfl, a1, b1⟩ := fitsAll_split (a := [Sc.flag]) (b := [Sc.text 32] ++ ([Sc.text 4096])) b0
 obtain ⟨fv1_0, gv1_0, rfl, cv1_0, dv1_0⟩ := fits_cons a1
 obtain ⟨nv1_0, rfl⟩ := fits_flag cv1_0
 obtain rfl := fits_nil dv1_0
 obtain ⟨p2, q2, rfl, a2, b2⟩ := fitsAll_split (a := [Sc.text 32]) (b := [Sc.text 4096]) b1
 obtain ⟨fv2_0, gv2_0, rfl, cv2_0, dv2_0⟩ := fits_cons a2
 obtain ⟨nv2_0, rfl⟩ := fits_text cv2_0
 obtain rfl := fits_nil dv2_0
 obtain ⟨fv3_0, gv3_0, rfl, cv3_0, dv3_0⟩ := fits_cons b2
 obtain ⟨nv3_0, rfl⟩ := fits_text cv3_0
 obtain rfl := fits_nil dv3_0
 exact ⟨⟨⟨lav0_0, lcv0_0, xsv0_0⟩, nv1_0, nv2_0, nv3_0⟩, rfl⟩
theorem Sight.of (e : List Fld) (h : fitsAll Sight.sc e) : ∃ x : Sight, x.flds = e := by
 obtain ⟨p0, q0, rfl, a0, b0⟩ := fitsAll_split (a := Header.sc) (b := Cert.sc ++ ([Sc.list 7 pairSc])) h
 obtain ⟨x0, rfl⟩ := Header.of _ a0
 obtain ⟨p1, q1, rfl, a1, b1⟩ := fitsAll_split (a := Cert.sc) (b := [Sc.list 7 pairSc]) b0
 obtain ⟨x1, rfl⟩ := Cert.of _ a1
 obtain ⟨fv2_0, gv2_0, rfl, cv2_0, dv2_0⟩ := fits_cons b1
 obtain ⟨lav2_0, lcv2_0, esv2_0, rfl, mv2_0⟩ := fits_list cv2_0
 obtain ⟨xsv2_0, rfl⟩ := lst_of pair_of esv2_0 mv2_0
 obtain rfl := fits_nil dv2_0
 exact ⟨⟨x0, x1, ⟨lav2_0, lcv2_0, xsv2_0⟩⟩, rfl⟩
theorem Tx.of (e : List Fld) (h : fitsAll Tx.sc e) : ∃ x : Tx, x.flds = e := by
 obtain ⟨p0, q0, rfl, a0, b0⟩ := fitsAll_split (a := List.replicate 7 numC) (b := [Sc.text 2048] ++ ([Sc.list 8 [numC]] ++ ([Sc.list 1 Sight.sc] ++ ([Sc.list 1 Proof.sc])))) h
 obtain ⟨fv0_0, gv0_0, rfl, cv0_0, dv0_0⟩ := fits_cons a0
 obtain ⟨nv0_0, rfl⟩ := fits_num cv0_0
 obtain ⟨fv0_1, gv0_1, rfl, cv0_1, dv0_1⟩ := fits_cons dv0_0
 obtain ⟨nv0_1, rfl⟩ := fits_num cv0_1
 obtain ⟨fv0_2, gv0_2, rfl, cv0_2, dv0_2⟩ := fits_cons dv0_1
 obtain ⟨nv0_2, rfl⟩ := fits_num cv0_2
 obtain ⟨fv0_3, gv0_3, rfl, cv0_3, dv0_3⟩ := fits_cons dv0_2
 obtain ⟨nv0_3, rfl⟩ := fits_num cv0_3
 obtain ⟨fv0_4, gv0_4, rfl, cv0_4, dv0_4⟩ := fits_cons dv0_3
 obtain ⟨nv0_4, rfl⟩ := fits_num cv0_4
 obtain ⟨fv0_5, gv0_5, rfl, cv0_5, dv0_5⟩ := fits_cons dv0_4
 obtain ⟨nv0_5, rfl⟩ := fits_num cv0_5
 obtain ⟨fv0_6, gv0_6, rfl, cv0_6, dv0_6⟩ := fits_cons dv0_5
 obtain ⟨nv0_6, rfl⟩ := fits_num cv0_6
 obtain rfl := fits_nil dv0_6
 obtain ⟨p1, q1, rfl, a1, b1⟩ := fitsAll_split (a := [Sc.text 2048]) (b := [Sc.list 8 [numC]] ++ ([Sc.list 1 Sight.sc] ++ ([Sc.list 1 Proof.sc]))) b0
 obtain ⟨fv1_0, gv1_0, rfl, cv1_0, dv1_0⟩ := fits_cons a1
 obtain ⟨nv1_0, rfl⟩ := fits_text cv1_0
 obtain rfl := fits_nil dv1_0
 obtain ⟨p2, q2, rfl, a2, b2⟩ := fitsAll_split (a := [Sc.list 8 [numC]]) (b := [Sc.list 1 Sight.sc] ++ ([Sc.list 1 Proof.sc])) b1
 obtain ⟨fv2_0, gv2_0, rfl, cv2_0, dv2_0⟩ := fits_cons a2
 obtain ⟨lav2_0, lcv2_0, esv2_0, rfl, mv2_0⟩ := fits_list cv2_0
 obtain ⟨xsv2_0, rfl⟩ := lst_of int_of esv2_0 mv2_0
 obtain rfl := fits_nil dv2_0
 obtain ⟨p3, q3, rfl, a3, b3⟩ := fitsAll_split (a := [Sc.list 1 Sight.sc]) (b := [Sc.list 1 Proof.sc]) b2
 obtain ⟨fv3_0, gv3_0, rfl, cv3_0, dv3_0⟩ := fits_cons a3
 obtain ⟨lav3_0, lcv3_0, esv3_0, rfl, mv3_0⟩ := fits_list cv3_0
 obtain ⟨xsv3_0, rfl⟩ := lst_of Sight.of esv3_0 mv3_0
 obtain rfl := fits_nil dv3_0
 obtain ⟨fv4_0, gv4_0, rfl, cv4_0, dv4_0⟩ := fits_cons b3
 obtain ⟨lav4_0, lcv4_0, esv4_0, rfl, mv4_0⟩ := fits_list cv4_0
 obtain ⟨xsv4_0, rfl⟩ := lst_of Proof.of esv4_0 mv4_0
 obtain rfl := fits_nil dv4_0
 exact ⟨⟨nv0_0, nv0_1, nv0_2, nv0_3, nv0_4, nv0_5, nv0_6, nv1_0, ⟨lav2_0, lcv2_0, xsv2_0⟩, ⟨lav3_0, lcv3_0, xsv3_0⟩, ⟨lav4_0, lcv4_0, xsv4_0⟩⟩, rfl⟩
theorem Vote.of (e : List Fld) (h : fitsAll Vote.sc e) : ∃ x : Vote, x.flds = e := by
 obtain ⟨p0, q0, rfl, a0, b0⟩ := fitsAll_split (a := List.replicate 3 numC) (b := [Sc.flag] ++ ([Sc.dig] ++ ([numC]))) h
 obtain ⟨fv0_0, gv0_0, rfl, cv0_0, dv0_0⟩ := fits_cons a0
 obtain ⟨nv0_0, rfl⟩ := fits_num cv0_0
 obtain ⟨fv0_1, gv0_1, rfl, cv0_1, dv0_1⟩ := fits_cons dv0_0
 obtain ⟨nv0_1, rfl⟩ := fits_num cv0_1
 obtain ⟨fv0_2, gv0_2, rfl, cv0_2, dv0_2⟩ := fits_cons dv0_1
 obtain ⟨nv0_2, rfl⟩ := fits_num cv0_2
 obtain rfl := fits_nil dv0_2
 obtain ⟨p1, q1, rfl, a1, b1⟩ := fitsAll_split (a := [Sc.flag]) (b := [Sc.dig] ++ ([numC])) b0
 obtain ⟨fv1_0, gv1_0, rfl, cv1_0, dv1_0⟩ := fits_cons a1
 obtain ⟨nv1_0, rfl⟩ := fits_flag cv1_0
 obtain rfl := fits_nil dv1_0
 obtain ⟨p2, q2, rfl, a2, b2⟩ := fitsAll_split (a := [Sc.dig]) (b := [numC]) b1
 obtain ⟨fv2_0, gv2_0, rfl, cv2_0, dv2_0⟩ := fits_cons a2
 obtain ⟨nv2_0, rfl⟩ := fits_dig cv2_0
 obtain rfl := fits_nil dv2_0
 obtain ⟨fv3_0, gv3_0, rfl, cv3_0, dv3_0⟩ := fits_cons b2
 obtain ⟨nv3_0, rfl⟩ := fits_num cv3_0
 obtain rfl := fits_nil dv3_0
 exact ⟨⟨nv0_0, nv0_1, nv0_2, nv1_0, nv2_0, nv3_0⟩, rfl⟩
theorem Guilt.of (e : List Fld) (h : fitsAll Guilt.sc e) : ∃ x : Guilt, x.flds = e := by
 obtain ⟨p0, q0, rfl, a0, b0⟩ := fitsAll_split (a := Vote.sc) (b := Vote.sc) h
 obtain ⟨x0, rfl⟩ := Vote.of _ a0
 obtain ⟨x1, rfl⟩ := Vote.of _ b0
 exact ⟨⟨x0, x1⟩, rfl⟩
theorem Block.of (e : List Fld) (h : fitsAll Block.sc e) : ∃ x : Block, x.flds = e := by
 obtain ⟨p0, q0, rfl, a0, b0⟩ := fitsAll_split (a := Header.sc) (b := [Sc.list 16 Tx.sc] ++ ([Sc.list 4 Guilt.sc])) h
 obtain ⟨x0, rfl⟩ := Header.of _ a0
 obtain ⟨p1, q1, rfl, a1, b1⟩ := fitsAll_split (a := [Sc.list 16 Tx.sc]) (b := [Sc.list 4 Guilt.sc]) b0
 obtain ⟨fv1_0, gv1_0, rfl, cv1_0, dv1_0⟩ := fits_cons a1
 obtain ⟨lav1_0, lcv1_0, esv1_0, rfl, mv1_0⟩ := fits_list cv1_0
 obtain ⟨xsv1_0, rfl⟩ := lst_of Tx.of esv1_0 mv1_0
 obtain rfl := fits_nil dv1_0
 obtain ⟨fv2_0, gv2_0, rfl, cv2_0, dv2_0⟩ := fits_cons b1
 obtain ⟨lav2_0, lcv2_0, esv2_0, rfl, mv2_0⟩ := fits_list cv2_0
 obtain ⟨xsv2_0, rfl⟩ := lst_of Guilt.of esv2_0 mv2_0
 obtain rfl := fits_nil dv2_0
 exact ⟨⟨x0, ⟨lav1_0, lcv1_0, xsv1_0⟩, ⟨lav2_0, lcv2_0, xsv2_0⟩⟩, rfl⟩
theorem Motion.of (e : List Fld) (h : fitsAll Motion.sc e) : ∃ x : Motion, x.flds = e := by
 obtain ⟨p0, q0, rfl, a0, b0⟩ := fitsAll_split (a := List.replicate 2 numC) (b := Block.sc ++ ([Sc.list 1 Cert.sc])) h
 obtain ⟨fv0_0, gv0_0, rfl, cv0_0, dv0_0⟩ := fits_cons a0
 obtain ⟨nv0_0, rfl⟩ := fits_num cv0_0
 obtain ⟨fv0_1, gv0_1, rfl, cv0_1, dv0_1⟩ := fits_cons dv0_0
 obtain ⟨nv0_1, rfl⟩ := fits_num cv0_1
 obtain rfl := fits_nil dv0_1
 obtain ⟨p1, q1, rfl, a1, b1⟩ := fitsAll_split (a := Block.sc) (b := [Sc.list 1 Cert.sc]) b0
 obtain ⟨x1, rfl⟩ := Block.of _ a1
 obtain ⟨fv2_0, gv2_0, rfl, cv2_0, dv2_0⟩ := fits_cons b1
 obtain ⟨lav2_0, lcv2_0, esv2_0, rfl, mv2_0⟩ := fits_list cv2_0
 obtain ⟨xsv2_0, rfl⟩ := lst_of Cert.of esv2_0 mv2_0
 obtain rfl := fits_nil dv2_0
 exact ⟨⟨nv0_0, nv0_1, x1, ⟨lav2_0, lcv2_0, xsv2_0⟩⟩, rfl⟩
theorem Known.of (e : List Fld) (h : fitsAll Known.sc e) : ∃ x : Known, x.flds = e := by
 obtain ⟨p0, q0, rfl, a0, b0⟩ := fitsAll_split (a := Cert.sc) (b := Block.sc) h
 obtain ⟨x0, rfl⟩ := Cert.of _ a0
 obtain ⟨x1, rfl⟩ := Block.of _ b0
 exact ⟨⟨x0, x1⟩, rfl⟩
theorem Message.of (e : List Fld) (h : fitsAll Message.sc e) : ∃ x : Message, x.flds = e := by
 obtain ⟨p0, q0, rfl, a0, b0⟩ := fitsAll_split (a := List.replicate 3 numC) (b := [Sc.list 512 Vote.sc] ++ ([Sc.list 2 Motion.sc] ++ ([Sc.list 2 Known.sc] ++ ([Sc.list 16 Tx.sc])))) h
 obtain ⟨fv0_0, gv0_0, rfl, cv0_0, dv0_0⟩ := fits_cons a0
 obtain ⟨nv0_0, rfl⟩ := fits_num cv0_0
 obtain ⟨fv0_1, gv0_1, rfl, cv0_1, dv0_1⟩ := fits_cons dv0_0
 obtain ⟨nv0_1, rfl⟩ := fits_num cv0_1
 obtain ⟨fv0_2, gv0_2, rfl, cv0_2, dv0_2⟩ := fits_cons dv0_1
 obtain ⟨nv0_2, rfl⟩ := fits_num cv0_2
 obtain rfl := fits_nil dv0_2
 obtain ⟨p1, q1, rfl, a1, b1⟩ := fitsAll_split (a := [Sc.list 512 Vote.sc]) (b := [Sc.list 2 Motion.sc] ++ ([Sc.list 2 Known.sc] ++ ([Sc.list 16 Tx.sc]))) b0
 obtain ⟨fv1_0, gv1_0, rfl, cv1_0, dv1_0⟩ := fits_cons a1
 obtain ⟨lav1_0, lcv1_0, esv1_0, rfl, mv1_0⟩ := fits_list cv1_0
 obtain ⟨xsv1_0, rfl⟩ := lst_of Vote.of esv1_0 mv1_0
 obtain rfl := fits_nil dv1_0
 obtain ⟨p2, q2, rfl, a2, b2⟩ := fitsAll_split (a := [Sc.list 2 Motion.sc]) (b := [Sc.list 2 Known.sc] ++ ([Sc.list 16 Tx.sc])) b1
 obtain ⟨fv2_0, gv2_0, rfl, cv2_0, dv2_0⟩ := fits_cons a2
 obtain ⟨lav2_0, lcv2_0, esv2_0, rfl, mv2_0⟩ := fits_list cv2_0
 obtain ⟨xsv2_0, rfl⟩ := lst_of Motion.of esv2_0 mv2_0
 obtain rfl := fits_nil dv2_0
 obtain ⟨p3, q3, rfl, a3, b3⟩ := fitsAll_split (a := [Sc.list 2 Known.sc]) (b := [Sc.list 16 Tx.sc]) b2
 obtain ⟨fv3_0, gv3_0, rfl, cv3_0, dv3_0⟩ := fits_cons a3
 obtain ⟨lav3_0, lcv3_0, esv3_0, rfl, mv3_0⟩ := fits_list cv3_0
 obtain ⟨xsv3_0, rfl⟩ := lst_of Known.of esv3_0 mv3_0
 obtain rfl := fits_nil dv3_0
 obtain ⟨fv4_0, gv4_0, rfl, cv4_0, dv4_0⟩ := fits_cons b3
 obtain ⟨lav4_0, lcv4_0, esv4_0, rfl, mv4_0⟩ := fits_list cv4_0
 obtain ⟨xsv4_0, rfl⟩ := lst_of Tx.of esv4_0 mv4_0
 obtain rfl := fits_nil dv4_0
 exact ⟨⟨nv0_0, nv0_1, nv0_2, ⟨lav1_0, lcv1_0, xsv1_0⟩, ⟨lav2_0, lcv2_0, xsv2_0⟩, ⟨lav3_0, lcv3_0, xsv3_0⟩, ⟨lav4_0, lcv4_0, xsv4_0⟩⟩, rfl⟩
end Go.Proofs.YtackcbpabjhmpaaGreat
