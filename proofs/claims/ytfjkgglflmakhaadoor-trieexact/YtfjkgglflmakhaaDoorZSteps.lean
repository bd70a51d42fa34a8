/- Steps in memory; small. -/
import Derived.Test.YtfjkgglflmakhaaDoorZSmall
namespace Go.Proofs.YtfjkgglflmakhaaDoor
open Go.RowKit
set_option linter.unusedVariables false
set_option linter.unusedSimpArgs false

/-- A step. -/
structure Sz where
  k : Int
  a : Int
  b : Int
  c : Int
  n : Int
  key : Key
  val : Key
def Sz.cells (x : Sz) : List Value := [.int .i64 x.k, .int .i64 x.a, .int .i64 x.b, .int .i64 x.c, .int .i64 x.n, .string (str x.key), .string (str x.val)]
def Sz.In (x : Sz) : Prop := InN x.k ∧ InN x.a ∧ InN x.n ∧ x.key.length ≤ 140737488355328 ∧ x.val.length ≤ 140737488355328
/-- A list of steps in memory. -/
def StepsZ (w : World) (la : Option Addr) (l : List Sz) : Prop :=
  l = [] ∨ ∃ b off, la = some ⟨b, off, none⟩ ∧ b < w.heap.size ∧ ∀ i x, l[i]? = some x → ∀ j u, x.cells[j]? = some u → w.cell? ⟨b, off + i * 7 + j, none⟩ = some u
theorem StepsZ.one {w w' : World} {la : Option Addr} {l : List Sz} (h : StepsZ w la l) (hb : Below w.heap.size w w') {i : Nat} (hi : i < l.length) : ∃ b off, la = some ⟨b, off, none⟩ ∧ b < w'.heap.size ∧ w'.cell? ⟨b, off + i * 7, none⟩ = some (.int .i64 l[i].k) ∧ w'.cell? ⟨b, off + i * 7 + 1, none⟩ = some (.int .i64 l[i].a) ∧ w'.cell? ⟨b, off + i * 7 + 2, none⟩ = some (.int .i64 l[i].b) ∧ w'.cell? ⟨b, off + i * 7 + 3, none⟩ = some (.int .i64 l[i].c) ∧ w'.cell? ⟨b, off + i * 7 + 4, none⟩ = some (.int .i64 l[i].n) ∧ w'.cell? ⟨b, off + i * 7 + 5, none⟩ = some (.string (str l[i].key)) ∧ w'.cell? ⟨b, off + i * 7 + 6, none⟩ = some (.string (str l[i].val)) := by
  rcases h with h | ⟨b, off, e, hl, hc⟩
  · rw [h] at hi; simp at hi
  · have k : ∀ j u, (l[i].cells)[j]? = some u → w'.cell? ⟨b, off + i * 7 + j, none⟩ = some u := fun j u hu => by rw [hb.cell (p := ⟨b, off + i * 7 + j, none⟩) hl]; exact hc i _ (List.getElem?_eq_getElem hi) j u hu
    exact ⟨b, off, e, Nat.lt_of_lt_of_le hl hb.size, k 0 _ rfl, k 1 _ rfl, k 2 _ rfl, k 3 _ rfl, k 4 _ rfl, k 5 _ rfl, k 6 _ rfl⟩
theorem wrapZ (n : Int) (h1 : -9223372036854775808 ≤ n) (h2 : n ≤ 9223372036854775807) : IntKind.i64.wrap n = n := by
  simp [IntKind.wrap, IntKind.min, IntKind.max, IntKind.signed, IntKind.bits]
  omega
def sumZ (l : List Sz) : Nat := (l.map fun x => x.key.length + x.val.length).sum
theorem sumZ_snoc (l : List Sz) (x : Sz) : sumZ (l ++ [x]) = sumZ l + (x.key.length + x.val.length) := by simp [sumZ]
theorem sumZ_mem (l : List Sz) (x : Sz) (h : x ∈ l) : x.key.length ≤ sumZ l := by
  induction l with
  | nil => cases h
  | cons y r ih =>
    have e : sumZ (y :: r) = (y.key.length + y.val.length) + sumZ r := by simp [sumZ]
    rcases List.mem_cons.1 h with q | q
    · rw [q, e]; omega
    · have := ih q; omega
/-- What small says. -/
def SmE (l : List Sz) (e : Ending) : Prop := ∃ z : Bool, e = .returned (.bool z) ∧ (z = true → l.length ≤ 4096 ∧ ∀ x ∈ l, x.key.length ≤ 65536)

set_option maxRecDepth 4000 in
set_option maxHeartbeats 3200000 in
theorem small_any (la : Option Addr) (ca : Nat) (l : List Sz) (w : World) (hl : l.length ≤ 140737488355328) (hin : ∀ x ∈ l, x.In) (hS : StepsZ w la l) :
    Calls Tryd.prog 4 #[.slice la l.length ca] w fun e w' => SmE l e ∧ Below w.heap.size w w' := by
  have HI := show Hid (_) from hin
  have HS := show Hid (StepsZ w la l) from hS
  clear hin hS
  go_enter Tryd.func4, Tryd.ntmps4
  go_wp2_with fail
  go_loopw [3, 4] (fun nv iv wv => ∃ (i m : Nat), i ≤ l.length ∧ iv = .int .i64 i ∧ nv = .int .i64 m ∧ m ≤ 1000000000000000 ∧ Hid (m = l.length + sumZ (l.take i)) ∧ Below w.heap.size w wv) (fun _ iv _ => l.length - (intOf iv).toNat)
  case atStart => exact ⟨0, l.length, Nat.zero_le _, rfl, rfl, by omega, by show _ = _; simp [sumZ], Below.refl _ _⟩
  case round =>
    obtain ⟨i, m, hi, rfl, rfl, hm, HM, hb⟩ := hrel
    by_cases hlt : i < l.length
    · have hlt' : (i : Int) < (l.length : Int) := by omega
      by_cases hm6 : m ≤ 65536
      · have hm6' : (m : Int) ≤ 65536 := by omega
        obtain ⟨b, off, e, hbl, _, _, _, _, _, c5, c6⟩ := HS.out.one hb hlt
        subst e
        have hIx := HI.out _ (List.getElem_mem hlt)
        have hst := sumZ_snoc (l.take i) l[i]
        rw [← List.take_succ_eq_append_getElem hlt] at hst
        have hk1 := hIx.2.2.2.1
        have hk2 := hIx.2.2.2.2
        generalize l[i] = x at *
        have HM2 : Hid (m + (x.key.length + x.val.length) = l.length + sumZ (l.take (i + 1))) := by show _ = _; rw [hst, HM.out]; omega
        clear HM hst hIx
        have s1 := str_size x.key
        have s2 := str_size x.val
        generalize x.key.length = kn at *
        generalize x.val.length = vn at *
        have ws1 : IntKind.i64.wrap ((m : Int) + (kn : Int)) = (m : Int) + (kn : Int) := wrapZ _ (by omega) (by omega)
        have ws2 : IntKind.i64.wrap ((m : Int) + (kn : Int) + (vn : Int)) = (m : Int) + (kn : Int) + (vn : Int) := wrapZ _ (by omega) (by omega)
        go_upto_region 5 with fail
        go_quiet (fail)
        go_wp2
        exact ⟨⟨i + 1, m + (kn + vn), by omega, by go_num, congrArg _ (by omega), by omega, HM2, below_drewN hb _⟩, by simp [intOf]; omega⟩
      · have hm6' : ¬ (m : Int) ≤ 65536 := by omega
        go_wp2
        go_ret
        exact ⟨⟨false, rfl, fun q => by cases q⟩, hb⟩
    · have hge : ¬ (i : Int) < (l.length : Int) := by omega
      have hil : i = l.length := by omega
      have HM2 : Hid (m = l.length + sumZ l) := by show _ = _; rw [HM.out, hil, List.take_length]
      clear HM hil
      by_cases hm6 : m ≤ 65536
      · have hm6' : (m : Int) ≤ 65536 := by omega
        have HZ : Hid (∀ x ∈ l, x.key.length ≤ 65536) := fun x hx => by have := sumZ_mem l x hx; have := HM2.out; omega
        by_cases h4 : l.length ≤ 4096
        · have h4' : (l.length : Int) ≤ 4096 := by omega
          go_wp2
          go_ret
          exact ⟨⟨true, rfl, fun _ => ⟨h4, HZ.out⟩⟩, hb⟩
        · have h4' : ¬ (l.length : Int) ≤ 4096 := by omega
          go_wp2
          go_ret
          exact ⟨⟨false, rfl, fun q => by cases q⟩, hb⟩
      · have hm6' : ¬ (m : Int) ≤ 65536 := by omega
        go_wp2
        go_ret
        exact ⟨⟨false, rfl, fun q => by cases q⟩, hb⟩
end Go.Proofs.YtfjkgglflmakhaaDoor
