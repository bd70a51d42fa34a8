/- The way of a key; its value. -/
import Derived.Test.YtmhllihedejehaaGreatM07
import Derived.Deep.LoopGhost
import Derived.Test.YtmhllihedejehaaGreatFMem
import Derived.BigQuiet

namespace Go.Proofs.YtmhllihedejehaaGreat
open Go.RowKit
set_option linter.unusedVariables false

/-- Its places are not too great. -/
def Tr.placed : Tr → Prop
  | .leaf _ _ => True
  | .fork p l r => p ≤ 100000000 ∧ l.placed ∧ r.placed

theorem Tr.size_pos (t : Tr) : 0 < t.size := by cases t <;> simp [Tr.size]

set_option maxHeartbeats 1600000 in
theorem end_any (wd : Int) (b : Nat) (t : Tr) (key : Key) (w : World) (hk : key.length ≤ maxLen) (hp : t.placed) (h : NodeAt wd w b t) :
    Calls Tryz.prog 50 #[.agg #[.int .i64 wd, .pointer (some ⟨b, 0, none⟩)], .string (str key)] w fun e w' => ∃ c, e = .returned (.pointer (some ⟨c, 0, none⟩)) ∧ NodeAt wd w' c (.leaf (t.find key).1 (t.find key).2) ∧ Below w.heap.size w w' := by
  have bA : Below w.heap.size w (w.alloc (.cells #[.int .i64 wd, .pointer (some ⟨b, 0, none⟩)] 34)) := (Below.refl _ _).alloc (Nat.le_refl _) _
  have h1 := NodeAt.below bA h
  go_enter Tryz.func50, Tryz.ntmps50
  go_wp2_with fail
  generalize w.alloc (.cells #[.int .i64 wd, .pointer (some ⟨b, 0, none⟩)] 34) = wA at *
  go_loopg [5] t.size (fun g n wr => ∃ (c : Nat) (u : Tr), g = u.size ∧ n = .pointer (some ⟨c, 0, none⟩) ∧ NodeAt wd wA c u ∧ u.placed ∧ u.find key = t.find key ∧ wr = wA)
  case atStart => exact ⟨b, t, rfl, rfl, h1, hp, rfl, rfl⟩
  case round =>
    obtain ⟨c, u, rfl, rfl, hc, hpu, hf, rfl⟩ := hrel
    cases u with
    | leaf k v =>
      have key1 := forks_leaf wd c k v wr hc
      have Hf : Aside (Tr.find key (.leaf k v) = t.find key) := hf
      clear hf
      go_wp2_with fail
      refine key1.mono ?_
      rintro e w' ⟨rfl, rfl⟩
      go_wp2
      go_ret
      refine ⟨c, rfl, ?_, bA⟩
      rw [← Hf.out]; exact hc
    | fork p l r =>
      have key1 := forks_fork wd c p l r wr hc
      obtain ⟨hp1, hpl, hpr⟩ := hpu
      obtain ⟨bl, br, kB, nl, nr⟩ := hc
      have key2 := bit_any key p wr hk hp1
      have key3 := side_any c (bitP key p) bl br _ _ _ _ wr (bitP_01 key p) kB
      have c3 := kB.cell 3
      simp only [List.getElem?_toArray, List.getElem?_cons_succ, List.getElem?_cons_zero] at c3
      have Hf : Aside (Tr.find key (.fork p l r) = t.find key) := hf
      clear hf
      by_cases hb : bitP key p = 0
      · rw [if_pos hb] at key3
        have Hg : Aside (Tr.find key l = t.find key) := by
          show _ = _
          rw [← Hf.out]; simp [Tr.find, hb]
        clear hb Hf
        go_wp2_with fail
        refine key1.mono ?_
        rintro e w' ⟨rfl, rfl⟩
        go_wp2_with fail
        refine key2.mono ?_
        rintro e w' ⟨rfl, rfl⟩
        go_wp2_with fail
        refine key3.mono ?_
        rintro e w' ⟨rfl, rfl⟩
        go_wp2
        go_roundg l.size
        case measure => simp [Tr.size]; omega
        case rel => exact ⟨bl, l, rfl, rfl, nl, hpl, Hg.out, rfl⟩
      · rw [if_neg hb] at key3
        have Hg : Aside (Tr.find key r = t.find key) := by
          show _ = _
          rw [← Hf.out]; simp [Tr.find, hb]
        clear hb Hf
        go_wp2_with fail
        refine key1.mono ?_
        rintro e w' ⟨rfl, rfl⟩
        go_wp2_with fail
        refine key2.mono ?_
        rintro e w' ⟨rfl, rfl⟩
        go_wp2_with fail
        refine key3.mono ?_
        rintro e w' ⟨rfl, rfl⟩
        go_wp2
        go_roundg r.size
        case measure => simp [Tr.size]; omega
        case rel => exact ⟨br, r, rfl, rfl, nr, hpr, Hg.out, rfl⟩

theorem end_none (n : Int) (s : ByteArray) (w : World) :
    Calls Tryz.prog 50 #[.agg #[.int .i64 n, .pointer none], .string s] w fun e w' => e = .returned (.pointer none) ∧ Below w.heap.size w w' := by
  go_enter Tryz.func50, Tryz.ntmps50
  go_wp2
  refine wp_loop_rounds 1 ?_
  rw [rounds_succ]
  go_wp2
  go_ret
  exact ⟨rfl, (Below.refl _ _).alloc (Nat.le_refl _) _⟩

theorem get_none (n : Int) (s : ByteArray) (w : World) :
    Calls Tryz.prog 45 #[.agg #[.int .i64 n, .pointer none], .string s] w fun e w' => e = .returned (.string ⟨#[]⟩) ∧ Below w.heap.size w w' := by
  go_enter Tryz.func45, Tryz.ntmps45
  go_wp2_with fail
  refine (end_none n s _).mono ?_
  rintro e w1 ⟨rfl, b1⟩
  go_wp2
  go_ret
  exact ⟨rfl, ((Below.refl _ _).alloc (Nat.le_refl _) _).trans (b1.mono (by simp))⟩

theorem new_any (n : Int) (w : World) :
    Calls Tryz.prog 22 #[.int .i64 n] w fun e w' => e = .returned (.agg #[.int .i64 n, .pointer none]) ∧ Below w.heap.size w w' := by
  go_enter Tryz.func22, Tryz.ntmps22
  go_wp2
  exact bodyPost_ret (v := .agg #[.int .i64 n, .pointer none]) (by simp [results, Tryz.results22, go_sem]) rfl
    ⟨rfl, (Below.refl _ _).alloc (Nat.le_refl _) _⟩

/-- The value of a key; none is empty. -/
def getO (key : Key) : Option Tr → Key
  | none => []
  | some t => if (t.find key).1 = key then (t.find key).2 else []

set_option maxHeartbeats 1600000 in
theorem get_any (wd : Int) (top : Value) (o : Option Tr) (key : Key) (w : World) (hk : key.length ≤ maxLen) (hp : ∀ t, o = some t → t.placed) (h : TopAt wd w top o) :
    Calls Tryz.prog 45 #[.agg #[.int .i64 wd, top], .string (str key)] w fun e w' => e = .returned (.string (str (getO key o))) ∧ Below w.heap.size w w' := by
  cases o with
  | none =>
    have e : top = .pointer none := h
    subst e
    exact get_none wd (str key) w
  | some t =>
    obtain ⟨b, rfl, hn⟩ := h
    have bA : Below w.heap.size w (w.alloc (.cells #[.int .i64 wd, .pointer (some ⟨b, 0, none⟩)] 34)) := (Below.refl _ _).alloc (Nat.le_refl _) _
    have key1 := end_any wd b t key _ hk (hp t rfl) (NodeAt.below bA hn)
    simp only [getO]
    by_cases hf : (t.find key).1 = key
    · rw [if_pos hf]
      obtain ⟨fk, fv, hF⟩ : ∃ fk fv, t.find key = (fk, fv) := ⟨_, _, rfl⟩
      rw [hF] at key1 hf ⊢
      simp only at key1 hf ⊢
      subst hf
      clear hF
      go_enter Tryz.func45, Tryz.ntmps45
      go_wp2_with fail
      refine key1.mono ?_
      rintro e w1 ⟨c, rfl, hc, b1⟩
      have B1 := bA.trans (b1.mono bA.size)
      have c1 := Blk.cell hc 1
      have c2 := Blk.cell hc 2
      simp only [List.getElem?_toArray, List.getElem?_cons_succ, List.getElem?_cons_zero] at c1 c2
      clear hc key1
      go_wp2
      go_ret
      exact ⟨rfl, B1⟩
    · rw [if_neg hf]
      obtain ⟨fk, fv, hF⟩ : ∃ fk fv, t.find key = (fk, fv) := ⟨_, _, rfl⟩
      rw [hF] at key1 hf
      simp only at key1 hf
      clear hF
      have hne : (fk == key) = false := by simpa using hf
      have s1 := str_toList fk
      have s2 := str_toList key
      go_enter Tryz.func45, Tryz.ntmps45
      go_wp2_with fail
      refine key1.mono ?_
      rintro e w1 ⟨c, rfl, hc, b1⟩
      have B1 := bA.trans (b1.mono bA.size)
      have c1 := Blk.cell hc 1
      have c2 := Blk.cell hc 2
      simp only [List.getElem?_toArray, List.getElem?_cons_succ, List.getElem?_cons_zero] at c1 c2
      clear hc key1
      go_wp2
      go_ret
      exact ⟨rfl, B1⟩
end Go.Proofs.YtmhllihedejehaaGreat

namespace Go.Proofs.YtmhllihedejehaaGreat
open Go.RowKit
set_option linter.unusedVariables false
set_option linter.unusedSimpArgs false

/-- Where what is wanted at a way lies. -/
def PT.want (t : PT) (way : Key) : Option Addr :=
  match t.get way with
  | some (.is b _ l r) => if (l.isNo && r.isNo) = true then some ⟨b, 0, none⟩ else none
  | _ => none

set_option maxRecDepth 4000 in
set_option maxHeartbeats 3200000 in
theorem wanted_any (fb : Nat) (c0 c1 c3 c4 c5 : Value) (pt : PT) (way : Key) (w : World) (hwl : way.length ≤ maxLen) (hf : Blk w fb #[c0, c1, .pointer pt.at, c3, c4, c5] 74) (h : PlAt w none pt) :
    Calls Tryz.prog 30 #[.pointer (some ⟨fb, 0, none⟩), .string (str way)] w fun e w' => e = .returned (.pointer (pt.want way)) ∧ Below w.heap.size w w' := by
  have sz := str_size way
  unfold maxLen at hwl
  have t2 := (hf.cell 2).trans rfl
  clear hf
  have hNo : ∀ (q : Key), (PT.no).get q ≠ none → q = [] := fun q hq => by cases q with
    | nil => rfl
    | cons c r => exact (hq rfl).elim
  go_enter Tryz.func30, Tryz.ntmps30
  go_wp2_with fail
  go_loopw [5, 6, 13] (fun nv _ iv wv => ∃ (i : Nat) (s : PT) (up : Option Addr), i ≤ way.length ∧ iv = .int .i64 i ∧ nv = .pointer s.at ∧ PlAt w up s ∧ Hid (pt.get way = s.get (way.drop i)) ∧ Below w.heap.size w wv) (fun _ _ iv _ => way.length - (intOf iv).toNat)
  case atStart => exact ⟨0, pt, none, Nat.zero_le _, rfl, rfl, h, rfl, Below.refl _ _⟩
  case round =>
    obtain ⟨i, s, up, hi, rfl, rfl, hT, HG, hB⟩ := hrel
    by_cases hil : i < way.length
    · have hil' : (i : Int) < (way.length : Int) := by omega
      have hd : way.drop i = way[i] :: way.drop (i + 1) := List.drop_eq_getElem_cons hil
      cases s with
      | no =>
        have HE : Hid (pt.want way = none) := by
          show _ = _
          unfold PT.want
          rw [HG.out, hd]; rfl
        clear HG hd hT h
        have e0 : PT.no.at = none := rfl
        rw [e0]
        generalize pt.at = qq at *
        go_wp2
        go_ret
        exact ⟨by rw [HE.out]; rfl, hB⟩
      | is b d l r =>
        obtain ⟨kB, nl, nr⟩ := hT
        have kB' := kB.below hB kB.lt
        have c2 := (kB'.cell 2).trans rfl
        have c3 := (kB'.cell 3).trans rfl
        have zb := kB'.lt
        have e0 : (PT.is b d l r).at = some ⟨b, 0, none⟩ := rfl
        rw [e0]
        obtain ⟨x, hx⟩ : ∃ x, way[i] = x := ⟨_, rfl⟩
        have hidx : ∀ hh : i < (str way).size, ((str way)[i]'hh).toNat = x.toNat := fun hh => congrArg UInt8.toNat ((str_get way i hil hh).trans hx)
        rw [hx] at hd
        have HL : Hid (PlAt w (some ⟨b, 0, none⟩) l) := nl
        have HR : Hid (PlAt w (some ⟨b, 0, none⟩) r) := nr
        clear nl nr h
        by_cases h1 : x = 48
        · have HE : Hid (pt.get way = l.get (way.drop (i + 1))) := by
            show _ = _
            rw [HG.out, hd, PT.get_cons, if_pos h1]
          subst h1
          have e48 : (48 : UInt8).toNat = 48 := rfl
          rw [e48] at hidx
          clear HG hd hx kB kB' c3 e0 e48
          generalize pt.at = qq at *
          generalize hla : l.at = la at *
          have HLA : Hid (l.at = la) := hla
          clear hla
          go_wp2
          go_quiet (fail)
          go_wp2
          exact ⟨⟨i + 1, l, _, by omega, by go_num, by rw [HLA.out], HL.out, HE, below_drewN hB _⟩, by simp [intOf]; omega⟩
        · by_cases h2 : x = 49
          · have HE : Hid (pt.get way = r.get (way.drop (i + 1))) := by
              show _ = _
              rw [HG.out, hd, PT.get_cons, if_neg h1, if_pos h2]
            subst h2
            have e48 : (49 : UInt8).toNat = 49 := rfl
            rw [e48] at hidx
            clear HG hd hx kB kB' c2 e0 e48 h1
            generalize pt.at = qq at *
            generalize hla : r.at = la at *
            have HLA : Hid (r.at = la) := hla
            clear hla
            go_wp2
            go_quiet (fail)
            go_wp2
            exact ⟨⟨i + 1, r, _, by omega, by go_num, by rw [HLA.out], HR.out, HE, below_drewN hB _⟩, by simp [intOf]; omega⟩
          · have HE : Hid (pt.want way = none) := by
              show _ = _
              unfold PT.want
              rw [HG.out, hd, PT.get_cons, if_neg h1, if_neg h2]
            have g1 : ((x.toNat : Int) != 48) = true := by
              rw [bne_iff_ne]
              intro e
              have e : x.toNat = 48 := by omega
              exact h1 (UInt8.toNat_inj.1 e)
            have g2 : ((x.toNat : Int) != 49) = true := by
              rw [bne_iff_ne]
              intro e
              have e : x.toNat = 49 := by omega
              exact h2 (UInt8.toNat_inj.1 e)
            obtain ⟨xn, hxn⟩ : ∃ n : Nat, x.toNat = n := ⟨_, rfl⟩
            rw [hxn] at hidx g1 g2
            clear HG hd hx kB kB' c2 c3 e0 h1 h2 hxn
            generalize pt.at = qq at *
            go_wp2
            go_ret
            exact ⟨by rw [HE.out]; rfl, hB⟩
    · have hge : ¬ (i : Int) < (way.length : Int) := by omega
      have hdr : way.drop i = [] := List.drop_of_length_le (by omega)
      have HE : Hid (pt.get way = some s) := by
        show _ = _
        rw [HG.out, hdr, PT.get_nil]
      clear HG hdr h
      cases s with
      | no =>
        have HF : Hid (pt.want way = none) := by
          show _ = _
          unfold PT.want
          rw [HE.out]
        clear HE hT
        have e0 : PT.no.at = none := rfl
        rw [e0]
        generalize pt.at = qq at *
        go_wp2
        go_ret
        exact ⟨by rw [HF.out]; rfl, hB⟩
      | is b d l r =>
        obtain ⟨kB, _, _⟩ := hT
        have kB' := kB.below hB kB.lt
        have K := isEnd_any b d _ l r wr kB'
        have HF : Hid (pt.want way = if (l.isNo && r.isNo) = true then some ⟨b, 0, none⟩ else none) := by
          show _ = _
          unfold PT.want
          rw [HE.out]
        clear HE
        have e0 : (PT.is b d l r).at = some ⟨b, 0, none⟩ := rfl
        rw [e0]
        generalize pt.at = qq at *
        generalize l.at = la at *
        generalize r.at = ra at *
        cases hz : (l.isNo && r.isNo) with
        | true =>
          rw [hz] at K HF
          clear hz kB kB' e0
          go_wp2_with fail
          refine K.mono ?_
          rintro e w1 ⟨rfl, rfl⟩
          go_wp2
          go_ret
          exact ⟨by rw [HF.out]; rfl, hB⟩
        | false =>
          rw [hz] at K HF
          clear hz kB kB' e0
          go_wp2_with fail
          refine K.mono ?_
          rintro e w1 ⟨rfl, rfl⟩
          go_wp2
          go_ret
          exact ⟨by rw [HF.out]; rfl, hB⟩
end Go.Proofs.YtmhllihedejehaaGreat
