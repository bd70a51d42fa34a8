/- All but some blocks is as it was; what bytes are worth. -/
import Derived.Test.YtaidiomaaldphaaWNums
namespace Go.Proofs.Ytaidiomaaldphaa
open Go.RowKit
set_option linter.unusedVariables false
set_option linter.unusedSimpArgs false

structure But (S : Nat → Prop) (w w' : World) : Prop where
  os : w'.os = w.os
  tape : w'.tape = w.tape
  output : w'.output = w.output
  size : w.heap.size ≤ w'.heap.size
  block : ∀ k, k < w.heap.size → ¬ S k → w'.heap[k]? = w.heap[k]?
theorem But.of_below {S : Nat → Prop} {w w' : World} (h : Below w.heap.size w w') : But S w w' := ⟨h.os, h.tape, h.output, h.size, fun k hk _ => h.block k hk⟩
theorem But.refl (S : Nat → Prop) (w : World) : But S w w := ⟨rfl, rfl, rfl, Nat.le_refl _, fun _ _ _ => rfl⟩
theorem But.trans {S : Nat → Prop} {a b c : World} (h : But S a b) (k : But S b c) : But S a c :=
  ⟨k.os.trans h.os, k.tape.trans h.tape, k.output.trans h.output, Nat.le_trans h.size k.size, fun i hi hn => (k.block i (Nat.lt_of_lt_of_le hi h.size) hn).trans (h.block i hi hn)⟩
theorem But.trans_new {S T : Nat → Prop} {a b c : World} (h : But S a b) (k : But T b c) (hs : ∀ k, k < a.heap.size → T k → S k) : But S a c :=
  ⟨k.os.trans h.os, k.tape.trans h.tape, k.output.trans h.output, Nat.le_trans h.size k.size, fun i hi hn => (k.block i (Nat.lt_of_lt_of_le hi h.size) (fun q => hn (hs i hi q))).trans (h.block i hi hn)⟩
theorem But.set {S : Nat → Prop} (w : World) {p : Addr} (hp : S p.block) (v : Value) : But S w (w.setCell p v) :=
  ⟨rfl, rfl, rfl, by rw [World.size_setCell]; exact Nat.le_refl _, fun k hk hn => Below.heap_setCell _ _ _ _ (fun e => hn (by rw [e]; exact hp))⟩
theorem But.of_grown {S : Nat → Prop} {w w' : World} {row : Option Nat} (h : w.grownBy w' row) (hr : ∀ k, row = some k → S k) : But S w w' :=
  ⟨h.os, h.tape, h.output, h.size, fun k hk hn => h.block k hk (fun e => hn (hr k e.symm))⟩
theorem But.mono {S T : Nat → Prop} {w w' : World} (h : But S w w') (hs : ∀ k, S k → T k) : But T w w' := ⟨h.os, h.tape, h.output, h.size, fun k hk hn => h.block k hk (fun q => hn (hs k q))⟩
theorem But.below {S : Nat → Prop} {w w' : World} (h : But S w w') {B : Nat} (hB : B ≤ w.heap.size) (hs : ∀ k, S k → B ≤ k) : Below B w w' :=
  ⟨h.os, h.tape, h.output, h.size, fun k hk => h.block k (by omega) (fun q => by have := hs k q; omega)⟩
theorem But.blk {S : Nat → Prop} {w w' : World} (h : But S w w') {b : Nat} {cs : Array Value} {t : TypeId} (k : Blk w b cs t) (hb : ¬ S b) : Blk w' b cs t := by
  have := h.block b k.lt hb
  unfold Blk at *
  rw [this]; exact k
theorem But.cell {S : Nat → Prop} {w w' : World} (h : But S w w') {p : Addr} (hp : p.block < w.heap.size) (hb : ¬ S p.block) : w'.cell? p = w.cell? p := by
  have := h.block _ hp hb
  unfold World.cell?
  rw [this]
theorem But.owns {S : Nat → Prop} {w w' : World} (h : But S w w') {base : Nat} {e : TypeId} {size : Nat} {v : Value} {n : Nat} {xs : List Value} (k : w.ownsRow base e size v n xs) (hb : ∀ g, v.ownBlock = some g → ¬ S g) : w'.ownsRow base e size v n xs := by
  refine ⟨k.1, ?_⟩
  rcases k.2 with k2 | ⟨g, cap, cur, e1, h1, h2, h3⟩
  · exact .inl k2
  · exact .inr ⟨g, cap, cur, e1, h1, by rw [h.block g (Array.getElem?_eq_some_iff.1 h2).1 (hb g (by rw [e1]; rfl))]; exact h2, h3⟩

/-- What bytes are worth, the highest first. -/
def val (l : List UInt8) : Nat := l.foldl (fun n b => n * 256 + b.toNat) 0
theorem val_snoc (l : List UInt8) (b : UInt8) : val (l ++ [b]) = val l * 256 + b.toNat := by simp [val, List.foldl_append]
theorem val_lt_aux (l : List UInt8) : ∀ n : Nat, l.foldl (fun n b => n * 256 + b.toNat) n < (n + 1) * 256 ^ l.length := by
  induction l with
  | nil => intro n; simp
  | cons b r ih =>
    intro n
    have h := ih (n * 256 + b.toNat)
    have hb : b.toNat < 256 := b.toNat_lt
    simp only [List.foldl_cons, List.length_cons]
    refine Nat.lt_of_lt_of_le h ?_
    rw [Nat.pow_succ, Nat.mul_comm (256 ^ r.length) 256, ← Nat.mul_assoc]
    exact Nat.mul_le_mul_right _ (by omega)
theorem val_lt (l : List UInt8) : val l < 256 ^ l.length := by have := val_lt_aux l 0; simpa [val] using this
theorem be_snocL (n : Int) (k : Nat) : be n (k + 1) = be (n / 256) k ++ [byteAt n] := by
  induction k with
  | zero => simp [be]
  | succ k ih =>
    rw [be, ih]
    rw [show be (n / 256) (k + 1) = byteAt (n / 256 / 256 ^ k) :: be (n / 256) k from rfl]
    rw [List.cons_append]
    congr 2
    rw [Int.ediv_ediv_of_nonneg (by omega), Int.pow_succ, Int.mul_comm]
theorem byteAt_nat (n : Int) : ((byteAt n).toNat : Int) = n % 256 := by
  unfold byteAt
  have h1 : 0 ≤ n % 256 := by omega
  have h2 : n % 256 < 256 := by omega
  have : (UInt8.ofNat (n % 256).toNat).toNat = (n % 256).toNat := by
    rw [UInt8.toNat_ofNat']
    omega
  rw [this]; omega
theorem val_be : ∀ (k : Nat) (n : Int), 0 ≤ n → n < 256 ^ k → (val (be n k) : Int) = n
  | 0, n, h0, h1 => by simp at h1; simp [be, val]; omega
  | k + 1, n, h0, h1 => by
    rw [be_snocL, val_snoc]
    have hd : n / 256 < 256 ^ k := by
      rw [Int.pow_succ] at h1
      exact Int.ediv_lt_of_lt_mul (by omega) h1
    have ih := val_be k (n / 256) (by omega) hd
    have hb := byteAt_nat n
    omega
end Go.Proofs.Ytaidiomaaldphaa
