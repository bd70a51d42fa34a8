/- The place to which a way leads, if a node is wanted there. -/
import Derived.Test.YtemlbcagkjmjgaaDoorFMem
import Derived.Test.YtemlbcagkjmjgaaDoorTGet
import Derived.BigQuiet
namespace Go.Proofs.YtemlbcagkjmjgaaDoor
open Go.RowKit
set_option linter.unusedVariables false
set_option linter.unusedSimpArgs false

/-- Where what is wanted at a way lies. -/
def PT.want (t : PT) (way : Key) : Option Addr :=
  match t.get way with
  | some (.is b _ l r) => if (l.isNo && r.isNo) = true then some ⟨b, 0, none⟩ else none
  | _ => none

set_option maxRecDepth 4000 in
set_option maxHeartbeats 3200000 in
theorem wanted_any (fb : Nat) (c0 c1 c3 c4 c5 : Value) (pt : PT) (way : Key) (w : World) (hwl : way.length ≤ maxLen) (hf : Blk w fb #[c0, c1, .pointer pt.at, c3, c4, c5] 67) (h : PlAt w none pt) :
    Calls Tryd.prog 29 #[.pointer (some ⟨fb, 0, none⟩), .string (str way)] w fun e w' => e = .returned (.pointer (pt.want way)) ∧ Below w.heap.size w w' := by
  have sz := str_size way
  unfold maxLen at hwl
  have t2 := (hf.cell 2).trans rfl
  clear hf
  have hNo : ∀ (q : Key), (PT.no).get q ≠ none → q = [] := fun q hq => by cases q with
    | nil => rfl
    | cons c r => exact (hq rfl).elim
  go_enter Tryd.func29, Tryd.ntmps29
  go_wp2_with fail
  go_loopw [5, 6, 13] (fun nv _ iv wv => ∃ (i : Nat) (s : PT) (up : Option Addr), i ≤ way.length ∧ iv = .int .i64 i ∧ nv = .pointer s.at ∧ PlAt w up s ∧ Hid (pt.get way = s.get (way.drop i)) ∧ Below w.heap.size w wv) (fun _ _ iv _ => way.length - (intOf iv).toNat)
  case atStart => exact ⟨0, pt, none, Nat.zero_le _, rfl, rfl, h, rfl, Below.refl _ _⟩
  case round =>
    obtain ⟨i, s, up, hi, rfl, rfl, hT, HG, hB⟩ := hrel
    by_cases hil : i < way.length
    · have hil' : (i : Int) < (way.length : Int) := by omega
      have hd : way.drop i = way[i] :: way.drop (i + 1) := List.drop_eq_getElem_cons hil
      cases s with
      | no =>
        have HE : Hid (pt.want way = none) := by
          show _ = _
          unfold PT.want
          rw [HG.out, hd]; rfl
        clear HG hd hT h
        have e0 : PT.no.at = none := rfl
        rw [e0]
        generalize pt.at = qq at *
        go_wp2
        go_ret
        exact ⟨by rw [HE.out]; rfl, hB⟩
      | is b d l r =>
        obtain ⟨kB, nl, nr⟩ := hT
        have kB' := kB.below hB kB.lt
        have c2 := (kB'.cell 2).trans rfl
        have c3 := (kB'.cell 3).trans rfl
        have zb := kB'.lt
        have e0 : (PT.is b d l r).at = some ⟨b, 0, none⟩ := rfl
        rw [e0]
        obtain ⟨x, hx⟩ : ∃ x, way[i] = x := ⟨_, rfl⟩
        have hidx : ∀ hh : i < (str way).size, ((str way)[i]'hh).toNat = x.toNat := fun hh => congrArg UInt8.toNat ((str_get way i hil hh).trans hx)
        rw [hx] at hd
        have HL : Hid (PlAt w (some ⟨b, 0, none⟩) l) := nl
        have HR : Hid (PlAt w (some ⟨b, 0, none⟩) r) := nr
        clear nl nr h
        by_cases h1 : x = 48
        · have HE : Hid (pt.get way = l.get (way.drop (i + 1))) := by
            show _ = _
            rw [HG.out, hd, PT.get_cons, if_pos h1]
          subst h1
          have e48 : (48 : UInt8).toNat = 48 := rfl
          rw [e48] at hidx
          clear HG hd hx kB kB' c3 e0 e48
          generalize pt.at = qq at *
          generalize hla : l.at = la at *
          have HLA : Hid (l.at = la) := hla
          clear hla
          go_wp2
          go_quiet (fail)
          go_wp2
          exact ⟨⟨i + 1, l, _, by omega, by go_num, by rw [HLA.out], HL.out, HE, below_drewN hB _⟩, by simp [intOf]; omega⟩
        · by_cases h2 : x = 49
          · have HE : Hid (pt.get way = r.get (way.drop (i + 1))) := by
              show _ = _
              rw [HG.out, hd, PT.get_cons, if_neg h1, if_pos h2]
            subst h2
            have e48 : (49 : UInt8).toNat = 49 := rfl
            rw [e48] at hidx
            clear HG hd hx kB kB' c2 e0 e48 h1
            generalize pt.at = qq at *
            generalize hla : r.at = la at *
            have HLA : Hid (r.at = la) := hla
            clear hla
            go_wp2
            go_quiet (fail)
            go_wp2
            exact ⟨⟨i + 1, r, _, by omega, by go_num, by rw [HLA.out], HR.out, HE, below_drewN hB _⟩, by simp [intOf]; omega⟩
          · have HE : Hid (pt.want way = none) := by
              show _ = _
              unfold PT.want
              rw [HG.out, hd, PT.get_cons, if_neg h1, if_neg h2]
            have g1 : ((x.toNat : Int) != 48) = true := by
              rw [bne_iff_ne]
              intro e
              have e : x.toNat = 48 := by omega
              exact h1 (UInt8.toNat_inj.1 e)
            have g2 : ((x.toNat : Int) != 49) = true := by
              rw [bne_iff_ne]
              intro e
              have e : x.toNat = 49 := by omega
              exact h2 (UInt8.toNat_inj.1 e)
            obtain ⟨xn, hxn⟩ : ∃ n : Nat, x.toNat = n := ⟨_, rfl⟩
            rw [hxn] at hidx g1 g2
            clear HG hd hx kB kB' c2 c3 e0 h1 h2 hxn
            generalize pt.at = qq at *
            go_wp2
            go_ret
            exact ⟨by rw [HE.out]; rfl, hB⟩
    · have hge : ¬ (i : Int) < (way.length : Int) := by omega
      have hdr : way.drop i = [] := List.drop_of_length_le (by omega)
      have HE : Hid (pt.get way = some s) := by
        show _ = _
        rw [HG.out, hdr, PT.get_nil]
      clear HG hdr h
      cases s with
      | no =>
        have HF : Hid (pt.want way = none) := by
          show _ = _
          unfold PT.want
          rw [HE.out]
        clear HE hT
        have e0 : PT.no.at = none := rfl
        rw [e0]
        generalize pt.at = qq at *
        go_wp2
        go_ret
        exact ⟨by rw [HF.out]; rfl, hB⟩
      | is b d l r =>
        obtain ⟨kB, _, _⟩ := hT
        have kB' := kB.below hB kB.lt
        have K := isEnd_any b d _ l r wr kB'
        have HF : Hid (pt.want way = if (l.isNo && r.isNo) = true then some ⟨b, 0, none⟩ else none) := by
          show _ = _
          unfold PT.want
          rw [HE.out]
        clear HE
        have e0 : (PT.is b d l r).at = some ⟨b, 0, none⟩ := rfl
        rw [e0]
        generalize pt.at = qq at *
        generalize l.at = la at *
        generalize r.at = ra at *
        cases hz : (l.isNo && r.isNo) with
        | true =>
          rw [hz] at K HF
          clear hz kB kB' e0
          go_wp2_with fail
          refine K.mono ?_
          rintro e w1 ⟨rfl, rfl⟩
          go_wp2
          go_ret
          exact ⟨by rw [HF.out]; rfl, hB⟩
        | false =>
          rw [hz] at K HF
          clear hz kB kB' e0
          go_wp2_with fail
          refine K.mono ?_
          rintro e w1 ⟨rfl, rfl⟩
          go_wp2
          go_ret
          exact ⟨by rw [HF.out]; rfl, hB⟩
end Go.Proofs.YtemlbcagkjmjgaaDoor
