/- A pass that writes: any number of digests. -/
import Derived.Test.YtblnlfcfjbfhiaaGreatXText
import Derived.Test.YtblnlfcfjbfhiaaGreatWWalk
namespace Go.Proofs.YtblnlfcfjbfhiaaGreat.W
open Go.RowKit
set_option linter.unusedVariables false

def PtrsD (w : World) (b lb : Nat) (ads : List Addr) (ns : List Int) : Prop :=
  ads.length = ns.length ∧ Safe w b lb ∧ ∀ i a n, ads[i]? = some a → ns[i]? = some n → w.cell? ⟨lb, i, none⟩ = some (.pointer (some a)) ∧ w.cell? a = some (.int .u64 n) ∧ Safe w b a.block ∧ (0 ≤ n ∧ n ≤ 18446744073709551615)

theorem PtrsD.kp {w w' : World} {base b lb : Nat} {ads : List Addr} {ns : List Int} (h : PtrsD w b lb ads ns) (hK : Kp base b w w') : PtrsD w' b lb ads ns := by
  refine ⟨h.1, h.2.1.kp hK, fun i a n ha hn => ?_⟩
  obtain ⟨h1, h2, h3, h4⟩ := h.2.2 i a n ha hn
  exact ⟨by rw [Safe.cell (a := ⟨lb, i, none⟩) h.2.1 hK]; exact h1, by rw [h3.cell hK]; exact h2, h3.kp hK, h4⟩

theorem ptrsD_mk {w : World} {b : Nat} (ads : List Addr) (ns : List Int) (hl : ads.length = ns.length) (hb : b < w.heap.size)
    (h : ∀ p ∈ ads.zip ns, w.cell? p.1 = some (.int .u64 p.2) ∧ Safe w b p.1.block ∧ (0 ≤ p.2 ∧ p.2 ≤ 18446744073709551615)) : PtrsD (w.alloc (.cells (ads.map fun a => Value.pointer (some a)).toArray 96)) b w.heap.size ads ns := by
  have hbl : Below w.heap.size w (w.alloc (.cells (ads.map fun a => Value.pointer (some a)).toArray 96)) := (Below.refl _ _).alloc (Nat.le_refl _) _
  have kN := Blk.new w (ads.map fun a => Value.pointer (some a)).toArray 96
  refine ⟨hl, kN.safe (by decide) (by omega), fun i a n ha hn => ?_⟩
  have hm : (a, n) ∈ ads.zip ns := List.mem_of_getElem? (i := i) (by rw [List.getElem?_zip_eq_some]; exact ⟨ha, hn⟩)
  obtain ⟨h1, h2, h3⟩ := h _ hm
  refine ⟨?_, ?_, h2.below hbl, h3⟩
  · rw [kN.cell i]; simp [ha]
  · rw [hbl.cell (p := a) h2.2.1]; exact h1

theorem digs_ok (l : List Int) : okL (digs l) = true := by
  induction l with
  | nil => rfl
  | cons n r ih => exact ih

theorem digs_take (l : List Int) (k : Nat) (n : Int) (h : l[k]? = some n) : encL (digs (l.take (k + 1))) = encL (digs (l.take k)) ++ be n 8 := by
  have e : l.take (k + 1) = l.take k ++ [n] := by rw [List.take_add_one, h]; rfl
  rw [e, show digs (l.take k ++ [n]) = digs (l.take k) ++ digs [n] by simp [digs], encL_append]
  simp [digs, encL, Atom.enc]

theorem digs_len (l : List Int) : (encL (digs l)).length = 8 * l.length := by
  induction l with
  | nil => rfl
  | cons n r ih => simp only [digs, List.map_cons, encL, Atom.enc, List.length_append, List.length_cons, be_len] at *; omega

set_option maxHeartbeats 800000 in
theorem digestsW (base b lb cap : Nat) (ads : List Addr) (ns : List Int) (out : List UInt8) (w : World) (hn : ns.length ≤ 16) (hL : out.length ≤ 1099511627000) (hP : PassAt w base b out) (hA : PtrsD w b lb ads ns) :
    Calls Tryz.prog 60 #[.pointer (some ⟨b, 0, none⟩), .slice (some ⟨lb, 0, none⟩) ns.length cap] w fun e w' => Wr base b out (digs ns) e w' ∧ Kp base b w w' := by
  have HA := show Hid (_ = _) from hA.1
  go_enter Tryz.func60, Tryz.ntmps60
  go_wp2
  go_loopw [5, 8] (fun _ iv wv => ∃ (k : Nat), k ≤ ns.length ∧ iv = .int .i64 k ∧ PassAt wv base b (out ++ encL (digs (ns.take k))) ∧ Kp base b w wv) (fun _ iv _ => ns.length - (intOf iv).toNat)
  case atStart => exact ⟨0, Nat.zero_le _, rfl, by simpa [digs, encL] using hP, Kp.refl _ _ _⟩
  case round =>
    obtain ⟨k, hk, rfl, hPk, hKk⟩ := hrel
    by_cases hlt : k < ns.length
    · have hlt' : (k : Int) < (ns.length : Int) := by omega
      have hla : k < ads.length := by rw [HA.out]; exact hlt
      obtain ⟨p1, p2, p3, p4⟩ := (hA.kp hKk).2.2 k ads[k] ns[k] (List.getElem?_eq_getElem hla) (List.getElem?_eq_getElem hlt)
      have Hst : Hid (_ = _) := digs_take ns k ns[k] (List.getElem?_eq_getElem hlt)
      have hl : (out ++ encL (digs (ns.take k))).length ≤ 1099511627776 := by rw [List.length_append, digs_len, List.length_take]; omega
      generalize ads[k] = a at *
      generalize ns[k] = n at *
      go_wp2_with fail
      refine (digest_any base b a n _ _ p4 hl hPk p2).mono ?_
      rintro e w1 ⟨rfl, h1, k1⟩
      rw [List.append_assoc, ← Hst.out] at h1
      clear Hst
      go_wp2
      exact ⟨⟨k + 1, by omega, by go_num, h1, hKk.trans k1⟩, by simp [intOf]; omega⟩
    · have hkk : k = ns.length := by omega
      have hf : PassAt wr base b (out ++ encL (digs ns)) := by
        rw [hkk, List.take_length] at hPk
        exact hPk
      have hge : ¬ (k : Int) < (ns.length : Int) := by omega
      clear hkk
      go_wp2
      go_end0
      exact ⟨.inl ⟨digs_ok ns, rfl, hf⟩, hKk⟩
end Go.Proofs.YtblnlfcfjbfhiaaGreat.W
