/- The program's At. -/
import Derived.Test.YtemlbcagkjmjgaaDoorZTrim
import Derived.Test.YtemlbcagkjmjgaaDoorTGet
namespace Go.Proofs.YtemlbcagkjmjgaaDoor
open Go.RowKit
set_option linter.unusedVariables false
set_option linter.unusedSimpArgs false

/-- Where a way leads. -/
def goP : Key → Option Tr → Option (Option Tr)
  | [], o => some o
  | c :: r, some (.fork _ l q) => goP r (some (if c = 48 then l else q))
  | _ :: _, _ => none
/-- A node as those outside are told of it. -/
def nodeV (wd : Int) : Option Tr → Value
  | none => .agg #[.int .i64 0, .string ⟨#[]⟩, .string ⟨#[]⟩, .int .i64 0, .int .u64 0, .int .u64 0]
  | some (.leaf k v) => .agg #[.int .i64 1, .string (str k), .string (str v), .int .i64 0, .int .u64 0, .int .u64 0]
  | some (.fork p l r) => .agg #[.int .i64 2, .string ⟨#[]⟩, .string ⟨#[]⟩, .int .i64 p, .int .u64 (l.dig wd), .int .u64 (r.dig wd)]
def atP (wd : Int) (way : Key) (o : Option Tr) : Value × Int := if isWay way then (match goP way o with | none => (nodeV wd none, 30) | some s => (nodeV wd s, 0)) else (nodeV wd none, 2)
/-- What At says. -/
def AtE (w : World) (x : Value × Int) (e : Ending) (w' : World) : Prop := e = .returned (.tuple #[x.1, .int .i64 x.2]) ∧ Below w.heap.size w w'
theorem way_at (way : Key) (h : isWay way = true) (i : Nat) (hi : i < way.length) : way[i] = 48 ∨ way[i] = 49 := by
  unfold isWay at h
  rw [List.all_eq_true] at h
  have := h _ (List.getElem_mem hi)
  simpa using this
theorem node_stored {w w1 : World} {R : Nat} (hR : w.heap.size ≤ R) (hb : Below w.heap.size w w1) (a b c d e f : Value) :
    Below w.heap.size w ((((((w1.setCell ⟨R, 0, none⟩ a).setCell ⟨R, 1, none⟩ b).setCell ⟨R, 2, none⟩ c).setCell ⟨R, 3, none⟩ d).setCell ⟨R, 4, none⟩ e).setCell ⟨R, 5, none⟩ f) :=
  (((((hb.setCell hR _).setCell hR _).setCell hR _).setCell hR _).setCell hR _).setCell hR _

set_option maxRecDepth 4000 in
set_option maxHeartbeats 3200000 in
theorem at_any (wd : Int) (q0 : Option Addr) (o : Option Tr) (way : Key) (w : World) (hwl : way.length ≤ maxLen) (h : TopAt wd w (.pointer q0) o) :
    Calls Tryd.prog 10 #[.agg #[.int .i64 wd, .pointer q0], .string (str way)] w fun e w' => AtE w (atP wd way o) e w' := by
  have sz := str_size way
  have KT := fun w' => trim_any way w' hwl
  have htw := trim_way way
  unfold maxLen at hwl
  have bA : Below w.heap.size w ((w.alloc (.cells #[.int .i64 wd, .pointer q0] 34)).alloc (.cells #[.int .i64 0, .string ⟨#[]⟩, .string ⟨#[]⟩, .int .i64 0, .int .u64 0, .int .u64 0] 28)) := ((Below.refl _ _).alloc (Nat.le_refl _) _).alloc (by simp) _
  have kT := (Blk.new w #[.int .i64 wd, .pointer q0] 34).alloc (.cells #[.int .i64 0, .string ⟨#[]⟩, .string ⟨#[]⟩, .int .i64 0, .int .u64 0, .int .u64 0] 28)
  have kR := Blk.new (w.alloc (.cells #[.int .i64 wd, .pointer q0] 34)) #[.int .i64 0, .string ⟨#[]⟩, .string ⟨#[]⟩, .int .i64 0, .int .u64 0, .int .u64 0] 28
  rw [World.size_alloc] at kR
  obtain ⟨tr, HTR⟩ : ∃ tr, Hid (Lib.trimS way [48, 49] = tr) := ⟨_, rfl⟩
  rw [HTR.out] at KT htw
  have l1 := str_toList tr
  go_enter Tryd.func10, Tryd.ntmps10
  go_wp2_with fail
  refine (KT _).mono ?_
  rintro e w2 ⟨rfl, b2⟩
  have B2 := bA.trans (b2.mono bA.size)
  have k2 := kT.below b2 kT.lt
  have r2 := kR.below b2 kR.lt
  have h2 := TopAt.below B2 h
  clear bA kT kR b2 KT h
  have t1 := (k2.cell 1).trans rfl
  have zt := k2.lt
  have x0 := (r2.cell 0).trans rfl
  have x1 := (r2.cell 1).trans rfl
  have x2 := (r2.cell 2).trans rfl
  have x3 := (r2.cell 3).trans rfl
  have x4 := (r2.cell 4).trans rfl
  have x5 := (r2.cell 5).trans rfl
  have f0 := r2.frozen 0
  have f1 := r2.frozen 1
  have f2 := r2.frozen 2
  have f3 := r2.frozen 3
  have f4 := r2.frozen 4
  have f5 := r2.frozen 5
  have zr := r2.lt
  have B3 := node_stored (R := w.heap.size + 1) (Nat.le_succ _) B2
  by_cases hw : isWay way = true
  · have htr : tr = [] := by rw [hw, beq_iff_eq] at htw; exact htw
    have HA : Hid (atP wd way o = match goP way o with | none => (nodeV wd none, 30) | some s => (nodeV wd s, 0)) := by show _ = _; unfold atP; rw [if_pos hw]
    have HW := show Hid (_) from hw
    subst htr
    have e0 : (str ([] : Key)) = ⟨#[]⟩ := rfl
    rw [e0]
    clear htw hw e0 l1
    go_wp2_with fail
    go_loopw [6, 7, 16] (fun nv _ iv wv => ∃ (i : Nat) (s : Option Tr) (q : Option Addr), i ≤ way.length ∧ iv = .int .i64 i ∧ nv = .pointer q ∧ TopAt wd w2 (.pointer q) s ∧ Hid (goP way o = goP (way.drop i) s) ∧ w2 = wv) (fun _ _ iv _ => way.length - (intOf iv).toNat)
    case atStart => exact ⟨0, o, q0, Nat.zero_le _, rfl, rfl, h2, rfl, rfl⟩
    case round =>
      obtain ⟨i, s, q, hi, rfl, rfl, hT, HG, rfl⟩ := hrel
      by_cases hil : i < way.length
      · have hil' : (i : Int) < (way.length : Int) := by omega
        have hd : way.drop i = way[i] :: way.drop (i + 1) := List.drop_eq_getElem_cons hil
        have hc := way_at way HW.out i hil
        cases s with
        | none =>
          have e : q = none := by have h : Value.pointer q = .pointer none := hT; injection h
          subst e
          have HE : Hid (atP wd way o = (nodeV wd none, 30)) := by
            show _ = _
            rw [HA.out, HG.out, hd]; rfl
          clear HA HG hd hc hT h2
          go_wp2
          exact bodyPost_ret (v := .tuple #[.agg #[.int .i64 0, .string ⟨#[]⟩, .string ⟨#[]⟩, .int .i64 0, .int .u64 0, .int .u64 0], .int .i64 30]) (by simp [results, Tryd.results10, go_sem, x0, x1, x2, x3, x4, x5, f0, f1, f2, f3, f4, f5, zr]) rfl ⟨by rw [HE.out]; rfl, B3 _ _ _ _ _ _⟩
        | some t =>
          obtain ⟨b, eb, hN⟩ := hT
          injection eb with eb
          subst eb
          cases t with
          | leaf k v =>
            have K1 := forks_leaf wd b k v w2 hN
            have HE : Hid (atP wd way o = (nodeV wd none, 30)) := by
              show _ = _
              rw [HA.out, HG.out, hd]; rfl
            clear HA HG hd hc hN h2
            go_wp2_with fail
            refine K1.mono ?_
            rintro e w' ⟨rfl, rfl⟩
            go_wp2
            exact bodyPost_ret (v := .tuple #[.agg #[.int .i64 0, .string ⟨#[]⟩, .string ⟨#[]⟩, .int .i64 0, .int .u64 0, .int .u64 0], .int .i64 30]) (by simp [results, Tryd.results10, go_sem, x0, x1, x2, x3, x4, x5, f0, f1, f2, f3, f4, f5, zr]) rfl ⟨by rw [HE.out]; rfl, B3 _ _ _ _ _ _⟩
          | fork p l r =>
            have K1 := forks_fork wd b p l r w2 hN
            obtain ⟨bl, br, kB, nl, nr⟩ := hN
            rcases hc with hc | hc
            · have K2 := side_any b 0 bl br _ _ _ _ w2 (.inl rfl) kB
              rw [if_pos rfl] at K2
              have hidx : ∀ hh : i < (str way).size, ((str way)[i]'hh).toNat = 48 := fun hh => (congrArg UInt8.toNat ((str_get way i hil hh).trans hc)).trans rfl
              have HE : Hid (goP way o = goP (way.drop (i + 1)) (some l)) := by
                show _ = _
                rw [HG.out, hd, hc]; rfl
              clear HG hd hc
              go_wp2_with fail
              refine K1.mono ?_
              rintro e w' ⟨rfl, rfl⟩
              go_wp2_with fail
              refine K2.mono ?_
              rintro e w' ⟨rfl, rfl⟩
              go_wp2
              exact ⟨⟨i + 1, some l, some ⟨bl, 0, none⟩, by omega, by go_num, rfl, ⟨bl, rfl, nl⟩, HE, trivial⟩, by simp [intOf]; omega⟩
            · have K2 := side_any b 1 bl br _ _ _ _ w2 (.inr rfl) kB
              rw [if_neg (by omega)] at K2
              have hidx : ∀ hh : i < (str way).size, ((str way)[i]'hh).toNat = 49 := fun hh => (congrArg UInt8.toNat ((str_get way i hil hh).trans hc)).trans rfl
              have HE : Hid (goP way o = goP (way.drop (i + 1)) (some r)) := by
                show _ = _
                rw [HG.out, hd, hc]; rfl
              clear HG hd hc
              go_wp2_with fail
              refine K1.mono ?_
              rintro e w' ⟨rfl, rfl⟩
              go_wp2_with fail
              refine K2.mono ?_
              rintro e w' ⟨rfl, rfl⟩
              go_wp2
              exact ⟨⟨i + 1, some r, some ⟨br, 0, none⟩, by omega, by go_num, rfl, ⟨br, rfl, nr⟩, HE, trivial⟩, by simp [intOf]; omega⟩
      · have hge : ¬ (i : Int) < (way.length : Int) := by omega
        have HE : Hid (atP wd way o = (nodeV wd s, 0)) := by
          show _ = _
          rw [HA.out, HG.out, List.drop_of_length_le (by omega)]; rfl
        clear HA HG h2
        cases s with
        | none =>
          have e : q = none := by have h : Value.pointer q = .pointer none := hT; injection h
          subst e
          clear hT
          go_wp2
          exact bodyPost_ret (v := .tuple #[.agg #[.int .i64 0, .string ⟨#[]⟩, .string ⟨#[]⟩, .int .i64 0, .int .u64 0, .int .u64 0], .int .i64 0]) (by simp [results, Tryd.results10, go_sem, x0, x1, x2, x3, x4, x5, f0, f1, f2, f3, f4, f5, zr]) rfl ⟨by rw [HE.out]; rfl, B3 _ _ _ _ _ _⟩
        | some t =>
          obtain ⟨b, eb, hN⟩ := hT
          injection eb with eb
          subst eb
          cases t with
          | leaf k v =>
            go_wp2_with fail
            refine (told_leaf b _ (str k) (str v) w2 hN).mono ?_
            rintro e w3 ⟨rfl, b3⟩
            have r3 := r2.below b3 r2.lt
            have B4 := node_stored (R := w.heap.size + 1) (Nat.le_succ _) (B2.trans (b3.mono B2.size))
            clear x0 x1 x2 x3 x4 x5 f0 f1 f2 f3 f4 f5 zr B3 r2 b3 B2 t1 zt k2
            have x0 := (r3.cell 0).trans rfl
            have x1 := (r3.cell 1).trans rfl
            have x2 := (r3.cell 2).trans rfl
            have x3 := (r3.cell 3).trans rfl
            have x4 := (r3.cell 4).trans rfl
            have x5 := (r3.cell 5).trans rfl
            have f0 := r3.frozen 0
            have f1 := r3.frozen 1
            have f2 := r3.frozen 2
            have f3 := r3.frozen 3
            have f4 := r3.frozen 4
            have f5 := r3.frozen 5
            have zr := r3.lt
            go_wp2
            exact bodyPost_ret (v := .tuple #[.agg #[.int .i64 1, .string (str k), .string (str v), .int .i64 0, .int .u64 0, .int .u64 0], .int .i64 0]) (by simp [results, Tryd.results10, go_sem, x0, x1, x2, x3, x4, x5, f0, f1, f2, f3, f4, f5, zr]) rfl ⟨by rw [HE.out]; rfl, B4 _ _ _ _ _ _⟩
          | fork p l r =>
            obtain ⟨bl, br, kB, nl, nr⟩ := hN
            go_wp2_with fail
            refine (told_fork b bl br _ p (l.dig wd) (r.dig wd) _ _ w2 kB nl.lt nr.lt nl.dig nr.dig).mono ?_
            rintro e w3 ⟨rfl, b3⟩
            have r3 := r2.below b3 r2.lt
            have B4 := node_stored (R := w.heap.size + 1) (Nat.le_succ _) (B2.trans (b3.mono B2.size))
            clear x0 x1 x2 x3 x4 x5 f0 f1 f2 f3 f4 f5 zr B3 r2 b3 B2 t1 zt k2
            have x0 := (r3.cell 0).trans rfl
            have x1 := (r3.cell 1).trans rfl
            have x2 := (r3.cell 2).trans rfl
            have x3 := (r3.cell 3).trans rfl
            have x4 := (r3.cell 4).trans rfl
            have x5 := (r3.cell 5).trans rfl
            have f0 := r3.frozen 0
            have f1 := r3.frozen 1
            have f2 := r3.frozen 2
            have f3 := r3.frozen 3
            have f4 := r3.frozen 4
            have f5 := r3.frozen 5
            have zr := r3.lt
            go_wp2
            exact bodyPost_ret (v := .tuple #[.agg #[.int .i64 2, .string ⟨#[]⟩, .string ⟨#[]⟩, .int .i64 p, .int .u64 (l.dig wd), .int .u64 (r.dig wd)], .int .i64 0]) (by simp [results, Tryd.results10, go_sem, x0, x1, x2, x3, x4, x5, f0, f1, f2, f3, f4, f5, zr]) rfl ⟨by rw [HE.out]; rfl, B4 _ _ _ _ _ _⟩
  · have hw' : isWay way = false := by simpa using hw
    have HE : Hid (atP wd way o = (nodeV wd none, 2)) := by show _ = _; unfold atP; rw [hw']; rfl
    have htr : (tr == []) = false := by rw [htw, hw']
    have htr2 : tr.isEmpty = false := by cases tr with
      | nil => simp at htr
      | cons _ _ => rfl
    clear hw hw' htw h2
    go_wp2
    exact bodyPost_ret (v := .tuple #[.agg #[.int .i64 0, .string ⟨#[]⟩, .string ⟨#[]⟩, .int .i64 0, .int .u64 0, .int .u64 0], .int .i64 2]) (by simp [results, Tryd.results10, go_sem, x0, x1, x2, x3, x4, x5, f0, f1, f2, f3, f4, f5, zr]) rfl ⟨by rw [HE.out]; rfl, B3 _ _ _ _ _ _⟩
end Go.Proofs.YtemlbcagkjmjgaaDoor
