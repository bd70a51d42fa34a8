/- The way of any proof that may be. -/
import Derived.Test.YtcpjcjonlkgblaaPWay
import Derived.Test.YtcpjcjonlkgblaaM39
import Derived.Test.YtcpjcjonlkgblaaM04

namespace Go.Proofs.Ytcpjcjonlkgblaa
open Go.RowKit
set_option linter.unusedVariables false
set_option linter.unusedSimpArgs false

/-- A list of images in memory. -/
def ImgsS (w : World) (v : Value) (E : List Ent) : Prop :=
  (∀ e ∈ E, Strs w e.a e.ss ∧ e.ss.length ≤ 3) ∧ ∃ g cap cur, v = .slice (some ⟨g, 0, none⟩) E.length cap ∧ E.length ≤ cap ∧ cap ≤ maxLen ∧ Blk w g cur 47 ∧ Holds2 cur (fun m => E.getD m noEnt) E.length
theorem ImgsS.below {w w' : World} {v : Value} {E : List Ent} (h : ImgsS w v E) (hb : Below w.heap.size w w') : ImgsS w' v E := by
  obtain ⟨h1, g, cap, cur, e, h2, h3, h4, h5⟩ := h
  exact ⟨fun x hx => ⟨(h1 x hx).1.below hb, (h1 x hx).2⟩, g, cap, cur, e, h2, h3, h4.below hb h4.lt, h5⟩
theorem ups_few (wd : Int) (key val : Key) : ∀ (ts : List (Int × Int)), ∀ i ∈ ups wd key val ts, i.2.length ≤ 3
  | [], i, hi => by simp [ups, leafImg] at hi; subst hi; simp
  | t :: ts, i, hi => by
    rcases List.mem_cons.1 hi with rfl | hi
    · simp only [forkImg]; split <;> simp [forkParts]
    · exact ups_few wd key val ts i hi
theorem wayP_few (wd : Int) (p : Pf) : ∀ i ∈ wayP wd p, i.2.length ≤ 3 := by
  intro i hi
  unfold wayP at hi
  split at hi
  · rcases List.mem_cons.1 hi with rfl | hi
    · simp
    · exact ups_few _ _ _ _ i hi
  · simp at hi; subst hi; simp
theorem ImgsS.of {w : World} {v : Value} {E : List Ent} {wd : Int} {p : Pf} (h : Imgs w v E) (hm : E.map Ent.img = wayP wd p) : ImgsS w v E := by
  obtain ⟨h1, h2⟩ := h
  refine ⟨fun e he => ⟨(h1 e he).1, ?_⟩, ?_⟩
  · exact wayP_few wd p e.img (by rw [← hm]; exact List.mem_map.2 ⟨e, he, rfl⟩)
  · rcases h2 with ⟨rfl, _⟩ | h2
    · unfold wayP at hm; split at hm <;> simp at hm
    · exact h2

set_option maxHeartbeats 800000 in
theorem way_bare (wd : Int) (la : Option Addr) (n cap : Nat) (k v : ByteArray) (w : World) :
    Calls Try.prog 40 #[.int .i64 wd, .agg #[.slice la n cap, .bool false, .string k, .string v]] w fun e W' => ∃ v E, e = .returned v ∧ ImgsS W' v E ∧ E.map Ent.img = [(5, [])] ∧ Below w.heap.size w W' ∧ ∀ g n c, v = .slice (some ⟨g, 0, none⟩) n c → w.heap.size ≤ g := by
  go_enter Try.func40, Try.ntmps40
  go_wp2_with fail
  refine (bareI_any _).mono ?_
  rintro e w1 ⟨v1, rfl, ⟨a, c, rfl, hS⟩, b1⟩
  go_wp2
  go_ret
  have bA : Below w.heap.size w ((w.alloc (.cells #[.int .i64 wd] 3)).alloc (.cells #[.slice la n cap, .bool false, .string k, .string v] 25)) := ((Below.refl _ _).alloc (Nat.le_refl _) _).alloc (by simp) _
  have bB := bA.trans (b1.mono bA.size)
  refine ⟨.slice (some ⟨w1.heap.size, 0, none⟩) 1 1, [⟨5, a, c, []⟩], rfl, ⟨fun e he => ?_, w1.heap.size, 1, _, rfl, Nat.le_refl _, by unfold maxLen; omega, Blk.new _ _ _, fun m hm => ?_⟩, rfl, bB.alloc bB.size _, fun g' n' c' e0 => by injection e0 with e0 _ _; injection e0 with e0; injection e0 with e0 _; rw [← e0]; exact bB.size⟩
  · simp at he; subst he; exact ⟨hS.below ((Below.refl _ _).alloc (Nat.le_refl _) _), by simp⟩
  · have : m = 0 := by simp at hm; omega
    subst this
    exact ⟨rfl, rfl⟩

/-- A proof that may be: what is known of its turns. -/
theorem tn_of (l : List (Int × Int)) (h : ∀ t ∈ l, (0 ≤ t.1 ∧ t.1 < 288) ∧ 0 ≤ t.2 ∧ t.2 ≤ 18446744073709551615) : ∃ zs : List Tn, zs.map (·.1) = l := by
  induction l with
  | nil => exact ⟨[], rfl⟩
  | cons t l ih =>
    obtain ⟨zs, e⟩ := ih fun x hx => h x (by simp [hx])
    exact ⟨⟨t, h t (by simp)⟩ :: zs, by simp [e]⟩
theorem way_any (wd : Int) (la : Option Addr) (cap : Nat) (p : Pf) (w : World) (hw : okW wd) (h : PfIn w la cap p) (hz : p.tu.length ≤ 100000) (ht : ∀ t ∈ p.tu, (0 ≤ t.1 ∧ t.1 < 288) ∧ 0 ≤ t.2 ∧ t.2 ≤ 18446744073709551615) :
    Calls Try.prog 40 #[.int .i64 wd, pfV la cap p] w fun e W' => ∃ v E, e = .returned v ∧ ImgsS W' v E ∧ E.map Ent.img = wayP wd p ∧ Below w.heap.size w W' ∧ ∀ g n c, v = .slice (some ⟨g, 0, none⟩) n c → w.heap.size ≤ g := by
  obtain ⟨lf, key, val, tu⟩ := p
  cases lf with
  | false => exact way_bare wd la _ cap _ _ w
  | true =>
    obtain ⟨zs, rfl⟩ := tn_of tu ht
    have := way_leaf wd la cap key val zs w hw (by simpa using hz) h.key h.val h.turns
    unfold pfV
    simp only [List.length_map]
    exact this.mono fun e W' ⟨v, E, h1, h2, h3, h4, h5⟩ => ⟨v, E, h1, .of h2 h3, h3, h4, h5⟩
end Go.Proofs.Ytcpjcjonlkgblaa

namespace Go.Proofs.Ytcpjcjonlkgblaa
open Go.RowKit
set_option linter.unusedVariables false
set_option linter.unusedSimpArgs false

/-- What PutProof says. -/
def putE (p : Pf) : Int := W.outE (!W.okL (p.thing none 0).atoms) (p.thing none 0).odd
theorem okL_app (l m : List W.Atom) : W.okL (l ++ m) = (W.okL l && W.okL m) := by
  induction l with
  | nil => rfl
  | cons a l ih => simp [W.okL, ih, Bool.and_assoc]
theorem wtL_app (l m : List W.Atom) : W.wtL (l ++ m) = W.wtL l + W.wtL m := by
  induction l with
  | nil => simp [W.wtL]
  | cons a l ih => simp only [List.cons_append, W.wtL, ih]; omega
theorem okTurns (l : List (Int × Int)) : W.okL (W.eachL W.Turn.atoms (l.map fun x => ⟨x.1, x.2⟩)) = true ↔ ∀ t ∈ l, 0 ≤ t.1 ∧ t.1 ≤ 287 := by
  induction l with
  | nil => simp [W.eachL, W.okL]
  | cons x l ih =>
    have e : W.eachL W.Turn.atoms ((x :: l).map fun x => (⟨x.1, x.2⟩ : W.Turn)) = W.Turn.atoms ⟨x.1, x.2⟩ ++ W.eachL W.Turn.atoms (l.map fun x => ⟨x.1, x.2⟩) := by simp [W.eachL]
    rw [e, okL_app, Bool.and_eq_true, ih]
    simp [W.Turn.atoms, W.digL, W.okL, W.Atom.ok]
theorem wtTurns (l : List (Int × Int)) : W.wtL (W.eachL W.Turn.atoms (l.map fun x => ⟨x.1, x.2⟩)) = 14 * l.length := by
  induction l with
  | nil => simp [W.eachL, W.wtL]
  | cons x l ih =>
    have e : W.eachL W.Turn.atoms ((x :: l).map fun x => (⟨x.1, x.2⟩ : W.Turn)) = W.Turn.atoms ⟨x.1, x.2⟩ ++ W.eachL W.Turn.atoms (l.map fun x => ⟨x.1, x.2⟩) := by simp [W.eachL]
    rw [e, wtL_app, ih]
    simp [W.Turn.atoms, W.digL, W.wtL, W.Atom.wt, be]
    omega
theorem okP (la : Option Addr) (cap : Nat) (p : Pf) : W.okL (p.thing la cap).atoms = true ↔ p.tu.length ≤ 288 ∧ (∀ t ∈ p.tu, 0 ≤ t.1 ∧ t.1 ≤ 287) ∧ p.key.length ≤ 32 ∧ p.val.length ≤ 4096 := by
  simp only [W.Proof.atoms, Pf.thing, okL_app, Bool.and_eq_true, W.listL, W.textL, W.flagL, W.okL, W.Atom.ok, okTurns, List.length_map]
  simp only [Bool.and_true, Bool.and_eq_true, decide_eq_true_eq, and_true]
  constructor
  · rintro ⟨⟨⟨⟨h1, h2⟩, h3⟩, h4⟩, h5⟩
    exact ⟨by omega, h3, by omega, by omega⟩
  · rintro ⟨h1, h2, h3, h4⟩
    exact ⟨⟨⟨⟨by omega, by omega⟩, h2⟩, by omega, by omega⟩, by omega, by omega⟩
theorem wtP (la : Option Addr) (cap : Nat) (p : Pf) : W.wtL (p.thing la cap).atoms ≤ 30 + 14 * p.tu.length + p.key.length + p.val.length := by
  simp only [W.Proof.atoms, Pf.thing, wtL_app, W.listL, W.textL, W.flagL, W.wtL, W.Atom.wt, wtTurns]
  have : (W.flagB p.leaf).length ≤ 8 := by cases p.leaf <;> decide
  omega
theorem putE_zero (p : Pf) (h : putE p = 0) : W.okL (p.thing none 0).atoms = true ∧ (p.thing none 0).may = true := by
  unfold putE W.outE at h
  by_cases h1 : W.okL (p.thing none 0).atoms = true
  · rw [h1] at h
    have := W.Proof.odd_may (p.thing none 0) h1
    simp at h
    rw [h] at this
    exact ⟨h1, by simpa using this⟩
  · simp [h1] at h
theorem putE_of (p : Pf) (h1 : W.okL (p.thing none 0).atoms = true) (h2 : (p.thing none 0).may = true) : putE p = 0 := by
  unfold putE
  rw [h1, W.Proof.odd_may (p.thing none 0) h1, h2]
  rfl
theorem riseI_of : ∀ (l : List (Int × Int)) (q : Int), 0 ≤ q → Rises l → (∀ t ∈ l, q ≤ t.1 ∧ t.1 < 288) → W.riseI q (l.map (·.1)) = true
  | [], q, _, _, _ => rfl
  | x :: l, q, h0, hr, h => by
    obtain ⟨h1, h2⟩ := List.pairwise_cons.1 hr
    have hx := h x (by simp)
    simp only [List.map_cons, W.riseI]
    rw [if_neg (by omega)]
    have e : wrap64 (x.1 + 1) = x.1 + 1 := by unfold wrap64; omega
    rw [e]
    exact riseI_of l (x.1 + 1) (by omega) h2 fun t ht => ⟨by have := h1 t ht; omega, (h t (by simp [ht])).2⟩
theorem prove_put (wd : Int) (key : Key) (o : Option Tr) (g : Good o) : putE (proveO wd key o) = 0 := by
  refine putE_of _ ((okP none 0 _).2 ⟨proveO_len wd key o g, fun t ht => ?_, ?_, ?_⟩) ?_
  · have := (proveO_fits wd key o g).pos t ht; omega
  · cases o with
    | none => simp [proveO]
    | some t => exact (g.keys _ (t.find_mem key)).1
  · cases o with
    | none => simp [proveO]
    | some t => exact (g.keys _ (t.find_mem key)).2.1
  · cases o with
    | none => rfl
    | some t =>
      have hv := (g.keys _ (t.find_mem key)).2.2
      have hr := riseI_of (proveT wd key t) 0 (by omega) (proveT_rises wd key t g.wf) fun z hz => (proveO_fits wd key (some t) g).pos z hz
      simp only [W.Proof.may, Pf.thing, proveO, if_true, List.map_map]
      simp only [Function.comp_def]
      rw [hr]
      simp [hv]
/-- What a proof is that PutProof takes. -/
theorem put_fits (p : Pf) (h : putE p = 0) : p.tu.length ≤ 288 ∧ (∀ t ∈ p.tu, 0 ≤ t.1 ∧ t.1 < 288) ∧ (p.leaf = false → p.val = []) := by
  obtain ⟨h1, h2⟩ := putE_zero p h
  obtain ⟨a1, a2, _⟩ := (okP none 0 p).1 h1
  refine ⟨a1, fun t ht => by have := a2 t ht; omega, fun hl => ?_⟩
  simp only [W.Proof.may, Pf.thing, hl, Bool.false_eq_true, if_false, Bool.and_eq_true, decide_eq_true_eq] at h2
  exact h2.2
end Go.Proofs.Ytcpjcjonlkgblaa

namespace Go.Proofs.Ytcpjcjonlkgblaa
open Go.RowKit
set_option linter.unusedVariables false
set_option linter.unusedSimpArgs false

/-- Are the bits the same at all turns? -/
def bitsOk (key : Key) (p : Pf) : List (Int × Int) → Bool
  | [] => true
  | t :: l => decide (bitP key t.1.toNat = bitP p.key t.1.toNat) && bitsOk key p l
theorem bitsOk_all (key : Key) (p : Pf) : ∀ l, bitsOk key p l = true ↔ ∀ t ∈ l, bitP key t.1.toNat = bitP p.key t.1.toNat
  | [] => by simp [bitsOk]
  | t :: l => by simp [bitsOk, bitsOk_all key p l]
def mayE (key : Key) (p : Pf) : Int := if putE p = 0 then (if bitsOk key p p.tu = true then 0 else 2) else putE p

set_option maxRecDepth 8000 in
set_option maxHeartbeats 3200000 in
theorem may_any (key : Key) (la : Option Addr) (cap : Nat) (p : Pf) (w : World) (hk : key.length ≤ 32) (h : PfIn w la cap p) (hl : p.tu.length ≤ 1000000) (hs1 : p.key.length ≤ 1000000) (hs2 : p.val.length ≤ 1000000) :
    Calls Try.prog 39 #[.string (str key), pfV la cap p] w fun e w' => e = .returned (.int .i64 (mayE key p)) ∧ Below w.heap.size w w' := by
  have hs := str_size key
  have hk' : ¬ ((key.length : Int) > 32) := by omega
  have hkm : key.length ≤ maxLen := by unfold maxLen; omega
  have KP : ∀ w', Below w.heap.size w w' → Calls Try.prog 55 #[pfV la cap p] w' fun e w'' => (∃ s, e = .returned (.tuple #[.string s, .int .i64 (putE p)])) ∧ Below w'.heap.size w' w'' := fun w' hb => by
    have h1 := W.wputProof_anyX (p.thing la cap) w' (by have := wtP la cap p; omega) (h.below hb).goods
    simp only [Pf.thing, List.length_map] at h1
    exact h1.mono fun e w'' ⟨h2, h3⟩ => ⟨⟨_, h2⟩, h3⟩
  unfold pfV at KP ⊢
  go_enter Try.func39, Try.ntmps39
  go_wp2_with fail
  have bA : Below w.heap.size w (w.alloc (.cells #[.slice la p.tu.length cap, .bool p.leaf, .string (str p.key), .string (str p.val)] 25)) := (Below.refl _ _).alloc (Nat.le_refl _) _
  have kP := Blk.new w #[.slice la p.tu.length cap, .bool p.leaf, .string (str p.key), .string (str p.val)] 25
  generalize w.alloc (.cells #[.slice la p.tu.length cap, .bool p.leaf, .string (str p.key), .string (str p.val)] 25) = wA at *
  refine (KP wA bA).mono ?_
  rintro e w1 ⟨⟨s1, rfl⟩, b1⟩
  have k1 := kP.below b1 kP.lt
  have c0 := (k1.cell 0).trans rfl
  have c2 := (k1.cell 2).trans rfl
  have z1 := k1.lt
  have B1 := bA.trans (b1.mono bA.size)
  have h1 := h.below B1
  clear KP
  by_cases hz : putE p = 0
  · rw [hz]
    obtain ⟨f1, f2, f3⟩ := put_fits p hz
    have HM : Hid (mayE key p = if bitsOk key p p.tu = true then 0 else 2) := by show _ = _; unfold mayE; rw [if_pos hz]
    clear hz kP
    go_wp2_with fail
    have HL0 : Hid (bitsOk key p p.tu = bitsOk key p (p.tu.drop 0)) := rfl
    go_loopw [23] (fun iv wv => ∃ i : Nat, i ≤ p.tu.length ∧ iv = .int .i64 i ∧ Hid (bitsOk key p p.tu = bitsOk key p (p.tu.drop i)) ∧ Below w1.heap.size w1 wv) (fun iv _ => p.tu.length - (intOf iv).toNat)
    case atStart => exact ⟨0, Nat.zero_le _, rfl, HL0, Below.refl _ _⟩
    case round =>
      obtain ⟨i, hi, rfl, HT, hbw⟩ := hrel
      clear HL0
      by_cases hlt : i < p.tu.length
      · have hlt' : (i : Int) < (p.tu.length : Int) := by omega
        rcases (h1.turns.below hbw) with h0 | ⟨b2, o2, e2, zz, cc⟩
        · rw [h0] at hlt; simp at hlt
        subst e2
        obtain ⟨a1, a2⟩ := cc i _ (List.getElem?_eq_getElem hlt)
        have hd := List.drop_eq_getElem_cons hlt
        obtain ⟨g1, g2⟩ := f2 _ (List.getElem_mem hlt)
        obtain ⟨x, ex⟩ : ∃ x, p.tu[i] = x := ⟨_, rfl⟩
        rw [ex] at a1 a2 hd g1 g2
        clear cc ex
        obtain ⟨xp, xd⟩ := x
        simp only at a1 a2 g1 g2
        obtain ⟨pp, rfl⟩ : ∃ pp : Nat, xp = pp := ⟨xp.toNat, by omega⟩
        have HB : Hid (bitsOk key p p.tu = (decide (bitP key pp = bitP p.key pp) && bitsOk key p (p.tu.drop (i + 1)))) := by
          show _ = _
          rw [HT.out, hd]
          simp [bitsOk]
        have q2 : ∀ w', Below wr.heap.size wr w' → w'.cell? ⟨w.heap.size, 2, none⟩ = some (.string (str p.key)) := fun w' hb => ((k1.below (hbw.trans (hb.mono hbw.size)) k1.lt).cell 2).trans rfl
        have zk : w.heap.size < wr.heap.size := Nat.lt_of_lt_of_le z1 hbw.size
        have KB1 := fun w' => bit_any key pp w' hkm (by omega)
        have KB2 := fun w' => bit_any p.key pp w' h.key (by omega)
        clear HT hd
        go_upto_region 9 with fail
        have bC : Below wr.heap.size wr (wr.alloc (.cells #[.int .i64 (pp : Int), .int .u64 xd] 69)) := (Below.refl _ _).alloc (Nat.le_refl _) _
        have kC := Blk.new wr #[.int .i64 (pp : Int), .int .u64 xd] 69
        have HBW := show Hid (Below w1.heap.size w1 _) from hbw.trans (bC.mono hbw.size)
        have Q2 : ∀ w', Below (wr.alloc (.cells #[.int .i64 (pp : Int), .int .u64 xd] 69)).heap.size (wr.alloc (.cells #[.int .i64 (pp : Int), .int .u64 xd] 69)) w' → w'.cell? ⟨w.heap.size, 2, none⟩ = some (.string (str p.key)) := fun w' hb => q2 w' (bC.trans (hb.mono bC.size))
        have Q3 : ∀ w', Below (wr.alloc (.cells #[.int .i64 (pp : Int), .int .u64 xd] 69)).heap.size (wr.alloc (.cells #[.int .i64 (pp : Int), .int .u64 xd] 69)) w' → w'.cell? ⟨wr.heap.size, 0, none⟩ = some (.int .i64 pp) := fun w' hb => ((kC.below hb kC.lt).cell 0).trans rfl
        clear q2 kC bC a1 a2 c0 c2
        generalize wr.alloc (.cells #[.int .i64 (pp : Int), .int .u64 xd] 69) = wC at *
        have bw : Below wC.heap.size wC wC := Below.refl _ _
        go_region_held3 (fun w' => Below wC.heap.size wC w') (repeat (first | exact bw.drew | assumption | refine Below.drew ?_ | exact bw))
          (first
          | (go_at_call 25
             with_reducible refine (KB1 _).mono ?_
             rintro e _ ⟨rfl, rfl⟩)
          | (go_at_call 25
             with_reducible refine (KB2 _).mono ?_
             rintro e _ ⟨rfl, rfl⟩))
        by_cases hbb : bitP key pp = bitP p.key pp
        · have hbz : (((bitP key pp : Nat) : Int) != ((bitP p.key pp : Nat) : Int)) = false := by simp [hbb]
          have HN : Hid (bitsOk key p p.tu = bitsOk key p (p.tu.drop (i + 1))) := by show _ = _; rw [HB.out]; simp [hbb]
          clear HB hbb KB1 KB2
          go_wp2
          exact ⟨⟨i + 1, by omega, by go_num, HN, HBW.out.trans ((Below.refl _ _).drew)⟩, by simp [intOf]; omega⟩
        · have hbz : (((bitP key pp : Nat) : Int) != ((bitP p.key pp : Nat) : Int)) = true := by simp; omega
          have HN : Hid (bitsOk key p p.tu = false) := by show _ = _; rw [HB.out]; simp [hbb]
          clear HB hbb KB1 KB2
          go_wp2
          go_ret
          exact ⟨by rw [HM.out, HN.out]; rfl, B1.trans ((HBW.out.trans ((Below.refl _ _).drew)).mono B1.size)⟩
      · have hge : ¬ (i : Int) < (p.tu.length : Int) := by omega
        have HB : Hid (bitsOk key p p.tu = true) := by
          show _ = _
          rw [HT.out, List.drop_of_length_le (by omega)]
          rfl
        clear HT
        go_wp2
        go_ret
        exact ⟨by rw [HM.out, HB.out]; rfl, B1.trans (hbw.mono B1.size)⟩
  · have HM : Hid (mayE key p = putE p) := by show _ = _; unfold mayE; rw [if_neg hz]
    have hzb : (putE p != 0) = true := by simpa using hz
    go_wp2
    go_ret
    exact ⟨by rw [HM.out]; rfl, B1⟩
end Go.Proofs.Ytcpjcjonlkgblaa

namespace Go.Proofs.Ytcpjcjonlkgblaa
open Go.RowKit
set_option linter.unusedVariables false
set_option linter.unusedSimpArgs false

def shownE (wd root : Int) (key : Key) (p : Pf) : Int := if mayE key p = 0 then (if headD wd p = root then 0 else 5) else mayE key p
theorem mayE_fits (key : Key) (p : Pf) (h : mayE key p = 0) (hs : ∀ t ∈ p.tu, okTurn t) : p.fits key ∧ p.tu.length ≤ 288 := by
  unfold mayE at h
  by_cases h1 : putE p = 0
  · rw [if_pos h1] at h
    by_cases h2 : bitsOk key p p.tu = true
    · obtain ⟨a1, a2, a3⟩ := put_fits p h1
      exact ⟨⟨a2, fun t ht => (hs t ht).2, (bitsOk_all key p p.tu).1 h2, a3⟩, a1⟩
    · rw [if_neg h2] at h; cases h
  · rw [if_neg h1] at h; exact absurd h h1
theorem wayP_head (wd : Int) (p : Pf) : ∃ i l, wayP wd p = i :: l ∧ digI wd i = headD wd p := by
  unfold wayP headD
  split
  · exact ⟨_, _, rfl, rfl⟩
  · exact ⟨_, _, rfl, rfl⟩
theorem ImgsS.at {w : World} {v : Value} {E : List Ent} (h : ImgsS w v E) (k : Nat) (hk : k < E.length) : ∃ g cap, v = .slice (some ⟨g, 0, none⟩) E.length cap ∧ g < w.heap.size ∧ w.cell? ⟨g, k * 2, none⟩ = some (.int .i64 E[k].tag) ∧ w.cell? ⟨g, k * 2 + 1, none⟩ = some (.slice E[k].a E[k].ss.length E[k].cap) := by
  obtain ⟨_, g, cap, cur, e, _, _, hb, hh⟩ := h
  obtain ⟨h1, h2⟩ := hh k hk
  have hg : E.getD k noEnt = E[k] := by simp [List.getD, hk]
  simp only [hg] at h1 h2
  exact ⟨g, cap, e, hb.lt, by rw [hb.cell]; exact h1, by rw [hb.cell]; exact h2⟩

set_option maxRecDepth 8000 in
set_option maxHeartbeats 3200000 in
theorem shown_any (wd root : Int) (key : Key) (la : Option Addr) (cap : Nat) (p : Pf) (w : World) (hw : okW wd) (hk : key.length ≤ 32) (h : PfIn w la cap p) (hl : p.tu.length ≤ 1000000) (hs1 : p.key.length ≤ 1000000) (hs2 : p.val.length ≤ 1000000) :
    Calls Try.prog 27 #[.int .i64 wd, .int .u64 root, .string (str key), pfV la cap p] w fun e w' => Below w.heap.size w w' ∧
      ((shownE wd root key p = 0 ∧ ∃ v E, e = .returned (.tuple #[.string (str (shownV key p)), v, .int .i64 0]) ∧ ImgsS w' v E ∧ E.map Ent.img = wayP wd p ∧ ∀ g n c, v = .slice (some ⟨g, 0, none⟩) n c → w.heap.size ≤ g) ∨
       (shownE wd root key p ≠ 0 ∧ e = .returned (.tuple #[.string (str []), .slice none 0 0, .int .i64 (shownE wd root key p)]))) := by
  have hkm : key.length ≤ maxLen := by unfold maxLen; omega
  have KM := fun w' hb => may_any key la cap p w' hk (h.below hb) hl hs1 hs2
  have bA : Below w.heap.size w (w.alloc (.cells #[.slice la p.tu.length cap, .bool p.leaf, .string (str p.key), .string (str p.val)] 25)) := (Below.refl _ _).alloc (Nat.le_refl _) _
  have kP := Blk.new w #[.slice la p.tu.length cap, .bool p.leaf, .string (str p.key), .string (str p.val)] 25
  unfold pfV at KM ⊢
  go_enter Try.func27, Try.ntmps27
  go_wp2_with fail
  generalize w.alloc (.cells #[.slice la p.tu.length cap, .bool p.leaf, .string (str p.key), .string (str p.val)] 25) = wA at *
  refine (KM wA bA).mono ?_
  rintro e w1 ⟨rfl, b1⟩
  have B1 := bA.trans (b1.mono bA.size)
  clear KM
  by_cases hm : mayE key p = 0
  · obtain ⟨ff, f288⟩ := mayE_fits key p hm h.each
    have HE : Hid (shownE wd root key p = if headD wd p = root then 0 else 5) := by show _ = _; unfold shownE; rw [if_pos hm]
    rw [hm]
    have KW := way_any wd la cap p w1 hw (h.below B1) (by omega) (fun t ht => ⟨ff.pos t ht, ff.side t ht⟩)
    unfold pfV at KW
    have k1 := kP.below b1 kP.lt
    have c0 := (k1.cell 0).trans rfl
    have c1 := (k1.cell 1).trans rfl
    have c2 := (k1.cell 2).trans rfl
    have c3 := (k1.cell 3).trans rfl
    have z1 := k1.lt
    clear hm ff
    go_wp2_with fail
    refine KW.mono ?_
    rintro e w2 ⟨v2, E2, rfl, hI, hM, b2, hfr⟩
    obtain ⟨i0, l0, ew, ed⟩ := wayP_head wd p
    have hE0 : 0 < E2.length := by have := congrArg List.length hM; rw [ew] at this; simp at this; omega
    have hi0 : E2[0].img = i0 := by
      have := congrArg (fun l => l[0]?) hM
      rw [ew] at this
      simp only [List.getElem?_map, List.getElem?_eq_getElem hE0, Option.map_some, List.getElem?_cons_zero, Option.some.injEq] at this
      exact this
    obtain ⟨g, cg, rfl, zg, d0, d1⟩ := hI.at 0 hE0
    have hf0 := hI.1 _ (List.getElem_mem hE0)
    have KO := ofImg_any wd E2[0].tag E2[0].ss (.agg #[.int .i64 E2[0].tag, .slice E2[0].a E2[0].ss.length E2[0].cap]) w2 hw (by have := hf0.2; unfold maxLen; omega) ⟨_, _, rfl, hf0.1⟩
    have hdig : ofP wd E2[0].tag E2[0].ss = headD wd p := by rw [← ed, ← hi0]; rfl
    rw [hdig] at KO
    have HM := show Hid (_ = _) from hM
    have HFR : Hid (∀ g' n' c', Value.slice (some ⟨g, 0, none⟩) E2.length cg = .slice (some ⟨g', 0, none⟩) n' c' → w.heap.size ≤ g') := fun g' n' c' e0 => Nat.le_trans B1.size (hfr g' n' c' e0)
    have HI := show Hid (ImgsS _ _ _) from hI
    have hE1 : (0 : Int) < (E2.length : Int) := by omega
    have hE2 : E2.length ≤ 1000 := by
      have h5 := congrArg List.length hM
      have h6 : (wayP wd p).length ≤ 290 := by
        unfold wayP
        split
        · have : ∀ ts : List (Int × Int), (ups wd p.key p.val ts).length = ts.length + 1 := fun ts => by induction ts with | nil => rfl | cons t ts ih => simp [ups, ih]
          simp [this]; omega
        · simp
      simp at h5; omega
    have B2 := B1.trans (b2.mono B1.size)
    have k2 := k1.below b2 k1.lt
    clear c0 c1 c2 c3 hfr hM hI hi0 ed ew hf0 hdig KW
    go_wp2_with fail
    refine KO.mono ?_
    rintro e w3 ⟨rfl, b3⟩
    have B3 := B2.trans (b3.mono B2.size)
    have HI3 := show Hid (ImgsS _ _ _) from HI.out.below b3
    have k3 := k2.below b3 k2.lt
    have c2 := (k3.cell 2).trans rfl
    have c3 := (k3.cell 3).trans rfl
    have z3 := k3.lt
    have s1 := str_toList p.key
    have s2 := str_toList key
    clear KO HI d0 d1 k2 k1
    by_cases hr : headD wd p = root
    · have HF : Hid (shownE wd root key p = 0) := by show _ = _; rw [HE.out, if_pos hr]
      have hrb : (headD wd p != root) = false := by simp [hr]
      clear HE hr
      by_cases hkk : p.key = key
      · have HV : Hid (shownV key p = p.val) := by show _ = _; unfold shownV; rw [if_pos hkk]
        have hkb : (p.key != key) = false := by simp [hkk]
        rw [hkk] at c2
        clear hkk s1
        go_wp2
        exact bodyPost_ret (v := .tuple #[.string (str p.val), .slice (some ⟨g, 0, none⟩) E2.length cg, .int .i64 0]) (by simp [results, Try.results27, go_sem]) rfl ⟨B3, .inl ⟨HF.out, _, E2, by rw [HV.out], HI3.out, HM.out, HFR.out⟩⟩
      · have HV : Hid (shownV key p = []) := by show _ = _; unfold shownV; rw [if_neg hkk]
        have hkb : (p.key == key) = false := by simpa using hkk
        clear hkk
        go_wp2
        exact bodyPost_ret (v := .tuple #[.string (str []), .slice (some ⟨g, 0, none⟩) E2.length cg, .int .i64 0]) (by simp [results, Try.results27, go_sem, str]) rfl ⟨B3, .inl ⟨HF.out, _, E2, by rw [HV.out], HI3.out, HM.out, HFR.out⟩⟩
    · have HF : Hid (shownE wd root key p = 5) := by show _ = _; rw [HE.out, if_neg hr]
      have hrb : (headD wd p != root) = true := by simpa using hr
      clear HE hr
      go_wp2
      exact bodyPost_ret (v := .tuple #[.string (str []), .slice none 0 0, .int .i64 5]) (by simp [results, Try.results27, go_sem, str]) rfl ⟨B3, .inr ⟨by rw [HF.out]; decide, by rw [HF.out]⟩⟩
  · have HE : Hid (shownE wd root key p = mayE key p) := by show _ = _; unfold shownE; rw [if_neg hm]
    have hmb : (mayE key p != 0) = true := by simpa using hm
    go_wp2
    exact bodyPost_ret (v := .tuple #[.string (str []), .slice none 0 0, .int .i64 (mayE key p)]) (by simp [results, Try.results27, go_sem, str]) rfl ⟨B1, .inr ⟨by rw [HE.out]; exact hm, by rw [HE.out]⟩⟩
end Go.Proofs.Ytcpjcjonlkgblaa
