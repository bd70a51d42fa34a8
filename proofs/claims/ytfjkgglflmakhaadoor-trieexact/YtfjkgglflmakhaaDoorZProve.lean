/- The answer's Prove. -/
import Derived.Test.YtfjkgglflmakhaaDoorZTop
import Derived.Test.YtfjkgglflmakhaaDoorPProve2
namespace Go.Proofs.YtfjkgglflmakhaaDoor
open Go.RowKit
set_option linter.unusedVariables false
set_option linter.unusedSimpArgs false

/-- The answer's Prove under way. -/
structure RPrv (w : World) (wd : Int) (la0 : Option Addr) (n0 c0 : Nat) (done : List (Int × Int)) (sv : Value) (W : World) : Prop where
  below : Below w.heap.size w W
  t : Blk W w.heap.size #[.int .i64 wd, .slice la0 n0 c0] 31
  res : Blk W (w.heap.size + 1) #[.slice none 0 0, .bool false, .string ⟨#[]⟩, .string ⟨#[]⟩] 47
  p : Blk W (w.heap.size + 2) #[sv, .bool false, .string ⟨#[]⟩, .string ⟨#[]⟩] 47
  row : W.ownsRow (w.heap.size + 3) 83 2 sv done.length (flatT done)
theorem RPrv.next {w : World} {wd : Int} {la0 : Option Addr} {n0 c0 : Nat} {done : List (Int × Int)} {sv : Value} {W W' : World} (h : RPrv w wd la0 n0 c0 done sv W) (hb : Below W.heap.size W W') : RPrv w wd la0 n0 c0 done sv W' :=
  ⟨h.below.trans (hb.mono h.below.size), h.t.below hb h.t.lt, h.res.below hb h.res.lt, h.p.below hb h.p.lt, owns_keep h.row hb⟩
theorem RPrv.grow {w : World} {wd : Int} {la0 : Option Addr} {n0 c0 : Nat} {done : List (Int × Int)} {sv : Value} {pl d : Int} {W W4 : World} {g cg : Nat} {o : Obj} (h : RPrv w wd la0 n0 c0 done sv W)
    (hown : W4.ownsRow (w.heap.size + 3) 83 2 (.slice (some ⟨g, 0, none⟩) (done.length + 1) cg) (done.length + 1) (flatT done ++ [.int .i64 pl, .int .u64 d])) (hgrow : (W.alloc o).grownBy W4 sv.ownBlock) :
    Blk W4 (w.heap.size + 2) #[sv, .bool false, .string ⟨#[]⟩, .string ⟨#[]⟩] 47 ∧ RPrv w wd la0 n0 c0 (done ++ [(pl, d)]) (.slice (some ⟨g, 0, none⟩) (done.length + 1) cg) (W4.setCell ⟨w.heap.size + 2, 0, none⟩ (.slice (some ⟨g, 0, none⟩) (done.length + 1) cg)) := by
  have n0 : sv.ownBlock ≠ some w.heap.size := fun e => by have := (h.row.lt _ e).1; omega
  have n1 : sv.ownBlock ≠ some (w.heap.size + 1) := fun e => by have := (h.row.lt _ e).1; omega
  have n2 : sv.ownBlock ≠ some (w.heap.size + 2) := fun e => by have := (h.row.lt _ e).1; omega
  have t4 := (h.t.alloc o).grown hgrow n0
  have r4 := (h.res.alloc o).grown hgrow n1
  have p4 := (h.p.alloc o).grown hgrow n2
  have b4 : Below w.heap.size w W4 := (h.below.alloc h.below.size o).grown hgrow (by have := h.below.size; simp; omega) (fun k e => by have := (h.row.lt k e).1; omega)
  have gne : g ≠ w.heap.size + 2 := by have := (hown.lt g rfl).1; omega
  refine ⟨p4, b4.setCell (p := ⟨w.heap.size + 2, 0, none⟩) (by show _ ≤ w.heap.size + 2; omega) _, t4.setOther ⟨w.heap.size + 2, 0, none⟩ (by show _ ≠ w.heap.size + 2; omega) _, r4.setOther ⟨w.heap.size + 2, 0, none⟩ (by show _ ≠ w.heap.size + 2; omega) _, p4.set 0 _, ?_⟩
  rw [List.length_append, flatT_snoc]
  exact hown.kept (grownBy_setCell' W4 (w.heap.size + 2) _) (.inr (by simp only [Value.ownBlock]; intro e; injection e with e; exact gne e))
theorem RPrv.rowAt {w : World} {wd : Int} {la0 : Option Addr} {n0 c0 : Nat} {done : List (Int × Int)} {la : Option Addr} {n cap : Nat} {W : World} (h : RPrv w wd la0 n0 c0 done (.slice la n cap) W) : done ≠ [] → ∀ b off, la = some ⟨b, off, none⟩ → w.heap.size + 3 ≤ b := fun hd b off e => by
  rcases h.row.2 with ⟨_, h0⟩ | ⟨g, cg, cur, e0, hg1, _⟩
  · exact absurd (List.eq_nil_of_length_eq_zero h0) hd
  · injection e0 with e1 _ _
    rw [e] at e1
    injection e1 with e1
    injection e1 with e1 _
    omega
theorem rprv_start (w : World) (wd : Int) (la : Option Addr) (n c : Nat) : RPrv w wd la n c [] (.slice none 0 0) (((w.alloc (.cells #[.int .i64 wd, .slice la n c] 31)).alloc (.cells #[.slice none 0 0, .bool false, .string ⟨#[]⟩, .string ⟨#[]⟩] 47)).alloc (.cells #[.slice none 0 0, .bool false, .string ⟨#[]⟩, .string ⟨#[]⟩] 47)) := by
  have k0 := ((Blk.new w #[.int .i64 wd, .slice la n c] 31).alloc (.cells #[.slice none 0 0, .bool false, .string ⟨#[]⟩, .string ⟨#[]⟩] 47)).alloc (.cells #[.slice none 0 0, .bool false, .string ⟨#[]⟩, .string ⟨#[]⟩] 47)
  have k1 := (Blk.new (w.alloc (.cells #[.int .i64 wd, .slice la n c] 31)) #[.slice none 0 0, .bool false, .string ⟨#[]⟩, .string ⟨#[]⟩] 47).alloc (.cells #[.slice none 0 0, .bool false, .string ⟨#[]⟩, .string ⟨#[]⟩] 47)
  have k2 := Blk.new ((w.alloc (.cells #[.int .i64 wd, .slice la n c] 31)).alloc (.cells #[.slice none 0 0, .bool false, .string ⟨#[]⟩, .string ⟨#[]⟩] 47)) #[.slice none 0 0, .bool false, .string ⟨#[]⟩, .string ⟨#[]⟩] 47
  simp only [World.size_alloc, Nat.add_assoc, Nat.reduceAdd] at k1 k2
  exact ⟨(((Below.refl _ _).alloc (Nat.le_refl _) _).alloc (by simp) _).alloc (by simp; omega) _, k0, k1, k2, World.ownsRow_nil _ _ _ _⟩
/-- A proof that a call gave. -/
def ProofE (w : World) (p : Pf) (e : Ending) (w' : World) : Prop := ∃ la cap, e = .returned (.tuple #[pfV la cap p, .int .i64 0]) ∧ TurnsAt w' la p.tu ∧ Below w.heap.size w w'

def lenOf (v : Value) : Nat := match v with
  | .slice _ n _ => n
  | _ => 0

set_option maxRecDepth 4000 in
set_option maxHeartbeats 6400000 in
theorem rprove_any (wd : Int) (o : Option Tr) (la0 : Option Addr) (c0 : Nat) (key : Key) (w : World) (hw : okW wd) (hk : key.length ≤ 32) (ht : FineO o) (hlen : (proveO wd key o).tu.length ≤ 100000) (hc0 : (itemsO o).length ≤ c0) (hi0 : ItemsAt w la0 (itemsO o)) :
    Calls Tryd.prog 17 #[.agg #[.int .i64 wd, .slice la0 (itemsO o).length c0], .string (str key)] w fun e w' => ProofE w (proveO wd key o) e w' := by
  obtain ⟨i0, hinf, hz0, hz1, hz2⟩ := info_parts infoTurn
  have s1 := str_size key
  have h1 : ¬ (32 : Int) < (key.length : Int) := by omega
  have R0 := rprv_start w wd la0 (itemsO o).length c0
  have HT := show Hid (FineO o ∧ (itemsO o).length ≤ c0 ∧ ItemsAt w la0 (itemsO o)) from ⟨ht, hc0, hi0⟩
  have HW := show Hid (okW wd) from hw
  clear ht hc0 hi0 hw
  obtain ⟨nt, HNT⟩ : ∃ nt, Hid ((itemsO o).length = nt) := ⟨_, rfl⟩
  rw [HNT.out] at R0 ⊢
  go_enter Tryd.func17, Tryd.ntmps17
  go_wp2_with fail
  generalize ((w.alloc (.cells #[.int .i64 wd, .slice la0 nt c0] 31)).alloc (.cells #[.slice none 0 0, .bool false, .string ⟨#[]⟩, .string ⟨#[]⟩] 47)).alloc (.cells #[.slice none 0 0, .bool false, .string ⟨#[]⟩, .string ⟨#[]⟩] 47) = w1 at *
  go_loopw [7] (fun lv wv => ∃ (s : Option Tr) (la : Option Addr) (c : Nat) (done : List (Int × Int)) (sv : Value), lv = .slice la (itemsO s).length c ∧ Hid (FineO s ∧ (itemsO s).length ≤ c ∧ ItemsAt w la (itemsO s)) ∧ Hid (done ++ (proveO wd key s).tu = (proveO wd key o).tu) ∧ Hid ((proveO wd key s).leaf = (proveO wd key o).leaf ∧ (proveO wd key s).key = (proveO wd key o).key ∧ (proveO wd key s).val = (proveO wd key o).val) ∧ RPrv w wd la0 nt c0 done sv wv) (fun lv _ => lenOf lv)
  case atStart => exact ⟨o, la0, c0, [], .slice none 0 0, by rw [HNT.out], HT, rfl, ⟨rfl, rfl, rfl⟩, R0⟩
  case round =>
    obtain ⟨s, la, c, done, sv, rfl, HS, HP, HF, R⟩ := hrel
    clear R0
    have hdl : done.length ≤ 100000 := by have := congrArg List.length HP.out; rw [List.length_append] at this; omega
    cases s with
    | none =>
      have e0 : (itemsO none).length = 0 := rfl
      rw [e0]
      have HP2 : Hid ((proveO wd key o).tu = done) := by show _ = _; rw [← HP.out]; simp [proveO]
      clear HP HS e0
      obtain ⟨ta, tc, hsv, hT⟩ := TurnsAt.of_owns R.row
      have HTu : Hid (TurnsAt wr ta done) := hT.2.2
      subst hsv
      have hra := R.rowAt
      have HRA := show Hid (_) from hra
      have hbW := R.below
      have kP := R.p
      have kR := R.res
      have q0 := (kP.cell 0).trans rfl
      have q1 := (kP.cell 1).trans rfl
      have q2 := (kP.cell 2).trans rfl
      have q3 := (kP.cell 3).trans rfl
      have zp := kP.lt
      have r0 := (kR.cell 0).trans rfl
      have r1 := (kR.cell 1).trans rfl
      have r2 := (kR.cell 2).trans rfl
      have r3 := (kR.cell 3).trans rfl
      have f0 := kR.frozen 0
      have f1 := kR.frozen 1
      have f2 := kR.frozen 2
      have f3 := kR.frozen 3
      have zr := kR.lt
      clear hT R hra kP kR
      go_wp2
      have hF : Below w.heap.size w ((((wr.setCell ⟨w.heap.size + 1, 0, none⟩ (.slice ta done.length tc)).setCell ⟨w.heap.size + 1, 1, none⟩ (.bool false)).setCell ⟨w.heap.size + 1, 2, none⟩ (.string ⟨#[]⟩)).setCell ⟨w.heap.size + 1, 3, none⟩ (.string ⟨#[]⟩)) := (((hbW.setCell (p := ⟨w.heap.size + 1, 0, none⟩) (Nat.le_succ _) _).setCell (p := ⟨w.heap.size + 1, 1, none⟩) (Nat.le_succ _) _).setCell (p := ⟨w.heap.size + 1, 2, none⟩) (Nat.le_succ _) _).setCell (p := ⟨w.heap.size + 1, 3, none⟩) (Nat.le_succ _) _
      have hT3 := ((((show TurnsAt wr ta done from HTu.out).set (fun hd b off e0 => by have := HRA.out hd b off e0; show w.heap.size + 1 ≠ b; omega) 0 (.slice ta done.length tc)).set (fun hd b off e0 => by have := HRA.out hd b off e0; show w.heap.size + 1 ≠ b; omega) 1 (.bool false)).set (fun hd b off e0 => by have := HRA.out hd b off e0; show w.heap.size + 1 ≠ b; omega) 2 (.string ⟨#[]⟩)).set (fun hd b off e0 => by have := HRA.out hd b off e0; show w.heap.size + 1 ≠ b; omega) 3 (.string ⟨#[]⟩)
      exact bodyPost_ret (v := .tuple #[.agg #[.slice ta done.length tc, .bool false, .string ⟨#[]⟩, .string ⟨#[]⟩], .int .i64 0]) (by simp [results, Tryd.results17, go_sem, r0, r1, r2, r3, f0, f1, f2, f3, zr]) rfl ⟨ta, tc, by unfold pfV; rw [HP2.out, ← HF.out.1, ← HF.out.2.1, ← HF.out.2.2]; rfl, by rw [HP2.out]; exact hT3, hF⟩
    | some t =>
      cases t with
      | leaf k v =>
        have e0 : (itemsO (some (.leaf k v))).length = 1 := rfl
        rw [e0]
        have HP2 : Hid ((proveO wd key o).tu = done) := by show _ = _; rw [← HP.out]; simp [proveO, proveT]
        have hit := HS.out.2.2
        rcases hit with h0 | ⟨b, off, ela, hbl, hc⟩
        · cases h0
        subst ela
        obtain ⟨d0, d1⟩ := hc 0 (k, v) rfl
        simp only [Nat.zero_mul, Nat.add_zero] at d0 d1
        have HD0 := show Hid (_ = _) from d0
        have HD1 := show Hid (_ = _) from d1
        clear HP HS e0 hc d0 d1
        obtain ⟨ta, tc, hsv, hT⟩ := TurnsAt.of_owns R.row
        subst hsv
        have hra := R.rowAt
        have HRA := show Hid (_) from hra
        have hT1 : Hid (TurnsAt _ _ _) := hT.2.2.set (c := w.heap.size + 2) (fun hd b off e => by have := hra hd b off e; omega) 1 (.bool true)
        have kP1 : Blk (wr.setCell ⟨w.heap.size + 2, 1, none⟩ (.bool true)) (w.heap.size + 2) #[.slice ta done.length tc, .bool true, .string ⟨#[]⟩, .string ⟨#[]⟩] 47 := R.p.set 1 (.bool true)
        have kR1 := R.res.setOther ⟨w.heap.size + 2, 1, none⟩ (by show w.heap.size + 1 ≠ w.heap.size + 2; omega) (.bool true)
        have B1 := R.below.setCell (p := ⟨w.heap.size + 2, 1, none⟩) (by show _ ≤ w.heap.size + 2; omega) (.bool true)
        have q1 := (R.p.cell 1).trans rfl
        have f1 := R.p.frozen 1
        have zp := R.p.lt
        clear R hra hT
        go_upto_region 18 with fail
        generalize wr.setCell ⟨w.heap.size + 2, 1, none⟩ (.bool true) = W1 at *
        clear q1 f1 zp
        have d0 := (B1.cell (p := ⟨b, off, none⟩) hbl).trans HD0.out
        have zb := Nat.lt_of_lt_of_le hbl B1.size
        have q2 := (kP1.cell 2).trans rfl
        have f2 := kP1.frozen 2
        have zp := kP1.lt
        have hT2 : Hid (TurnsAt _ _ _) := hT1.out.set (c := w.heap.size + 2) (fun hd b off e => by have := HRA.out hd b off e; omega) 2 (.string (str k))
        have kP2 : Blk (W1.setCell ⟨w.heap.size + 2, 2, none⟩ (.string (str k))) (w.heap.size + 2) #[.slice ta done.length tc, .bool true, .string (str k), .string ⟨#[]⟩] 47 := kP1.set 2 (.string (str k))
        have kR2 := kR1.setOther ⟨w.heap.size + 2, 2, none⟩ (by show w.heap.size + 1 ≠ w.heap.size + 2; omega) (.string (str k))
        have B2 := B1.setCell (p := ⟨w.heap.size + 2, 2, none⟩) (by show _ ≤ w.heap.size + 2; omega) (.string (str k))
        clear kP1 kR1 B1 hT1
        go_upto_region 19 with fail
        generalize W1.setCell ⟨w.heap.size + 2, 2, none⟩ (.string (str k)) = W2 at *
        clear q2 f2 zp d0 zb
        have d1 := (B2.cell (p := ⟨b, off + 1, none⟩) hbl).trans HD1.out
        have zb := Nat.lt_of_lt_of_le hbl B2.size
        have q3 := (kP2.cell 3).trans rfl
        have f3 := kP2.frozen 3
        have zp := kP2.lt
        have hT3 : Hid (TurnsAt _ _ _) := hT2.out.set (c := w.heap.size + 2) (fun hd b off e => by have := HRA.out hd b off e; omega) 3 (.string (str v))
        have kP3 : Blk (W2.setCell ⟨w.heap.size + 2, 3, none⟩ (.string (str v))) (w.heap.size + 2) #[.slice ta done.length tc, .bool true, .string (str k), .string (str v)] 47 := kP2.set 3 (.string (str v))
        have kR3 := kR2.setOther ⟨w.heap.size + 2, 3, none⟩ (by show w.heap.size + 1 ≠ w.heap.size + 2; omega) (.string (str v))
        have B3 := B2.setCell (p := ⟨w.heap.size + 2, 3, none⟩) (by show _ ≤ w.heap.size + 2; omega) (.string (str v))
        clear kP2 kR2 B2 hT2
        go_upto_region 20 with fail
        generalize W2.setCell ⟨w.heap.size + 2, 3, none⟩ (.string (str v)) = W3 at *
        clear q3 f3 zp d1 zb
        have q0 := (kP3.cell 0).trans rfl
        have q1 := (kP3.cell 1).trans rfl
        have q2 := (kP3.cell 2).trans rfl
        have q3 := (kP3.cell 3).trans rfl
        have zp := kP3.lt
        have r0 := (kR3.cell 0).trans rfl
        have r1 := (kR3.cell 1).trans rfl
        have r2 := (kR3.cell 2).trans rfl
        have r3 := (kR3.cell 3).trans rfl
        have f0 := kR3.frozen 0
        have f1 := kR3.frozen 1
        have f2 := kR3.frozen 2
        have f3 := kR3.frozen 3
        have zr := kR3.lt
        clear kP3 kR3
        go_wp2
        have hF : Below w.heap.size w ((((W3.setCell ⟨w.heap.size + 1, 0, none⟩ (.slice ta done.length tc)).setCell ⟨w.heap.size + 1, 1, none⟩ (.bool true)).setCell ⟨w.heap.size + 1, 2, none⟩ (.string (str k))).setCell ⟨w.heap.size + 1, 3, none⟩ (.string (str v))) := (((B3.setCell (p := ⟨w.heap.size + 1, 0, none⟩) (Nat.le_succ _) _).setCell (p := ⟨w.heap.size + 1, 1, none⟩) (Nat.le_succ _) _).setCell (p := ⟨w.heap.size + 1, 2, none⟩) (Nat.le_succ _) _).setCell (p := ⟨w.heap.size + 1, 3, none⟩) (Nat.le_succ _) _
        have hT4 := ((((show TurnsAt W3 ta done from hT3.out).set (fun hd b off e0 => by have := HRA.out hd b off e0; show w.heap.size + 1 ≠ b; omega) 0 (.slice ta done.length tc)).set (fun hd b off e0 => by have := HRA.out hd b off e0; show w.heap.size + 1 ≠ b; omega) 1 (.bool true)).set (fun hd b off e0 => by have := HRA.out hd b off e0; show w.heap.size + 1 ≠ b; omega) 2 (.string (str k))).set (fun hd b off e0 => by have := HRA.out hd b off e0; show w.heap.size + 1 ≠ b; omega) 3 (.string (str v))
        exact bodyPost_ret (v := .tuple #[.agg #[.slice ta done.length tc, .bool true, .string (str k), .string (str v)], .int .i64 0]) (by simp [results, Tryd.results17, go_sem, r0, r1, r2, r3, f0, f1, f2, f3, zr]) rfl ⟨ta, tc, by unfold pfV; rw [HP2.out, ← HF.out.1, ← HF.out.2.1, ← HF.out.2.2]; rfl, by rw [HP2.out]; exact hT4, hF⟩
      | fork p l r =>
        have hfine := HS.out.1 _ rfl
        have hitm := HS.out.2.2
        have hcap := HS.out.2.1
        obtain ⟨b, off, ela⟩ : ∃ b off, la = some ⟨b, off, none⟩ := by
          rcases hitm with h0 | ⟨b, off, e, _⟩
          · have := l.items_pos; simp only [itemsO, Tr.items] at h0; rw [(List.append_eq_nil_iff.1 h0).1] at this; simp at this
          · exact ⟨b, off, e⟩
        subst ela
        have hle : (itemsO (some (.fork p l r))).length = l.items.length + r.items.length := by simp [itemsO, Tr.items]
        have hlp := l.items_pos
        have hrp := r.items_pos
        have hlen5 := hfine.len
        have hp8 : p ≤ 100000000 := hfine.pl.1
        have KF := fun w' hb => rfork_fine hfine (some ⟨b, off, none⟩) c w' (hitm.below hb)
        have hle' : (Tr.fork p l r).items.length = l.items.length + r.items.length := hle
        rw [hle'] at hlen5
        have KL := fun w' hb => topD_any wd HW.out l hfine.left (some ⟨b, off, none⟩) c w' (by omega) (ItemsAt.left (hitm.below hb))
        have KR := fun w' hb => topD_any wd HW.out r hfine.right (some ⟨b, off + l.items.length * 2, none⟩) (c - l.items.length) w' (by omega) (ItemsAt.right (hitm.below hb))
        have KB := fun w' => rbit_any key p w' (by unfold maxLen; omega) hp8
        have HSL : Hid (FineO (some l) ∧ (itemsO (some l)).length ≤ c ∧ ItemsAt w (some ⟨b, off, none⟩) (itemsO (some l))) := ⟨fun t e => by injection e with e; rw [← e]; exact hfine.left, by show l.items.length ≤ c; omega, ItemsAt.left hitm⟩
        have HSR : Hid (FineO (some r) ∧ (itemsO (some r)).length ≤ c - l.items.length ∧ ItemsAt w (some ⟨b, off + l.items.length * 2, none⟩) (itemsO (some r))) := ⟨fun t e => by injection e with e; rw [← e]; exact hfine.right, by show r.items.length ≤ c - l.items.length; omega, ItemsAt.right hitm⟩
        rw [hle'] at KF
        rw [hle]
        have e1 : (itemsO (some l)).length = l.items.length := rfl
        have e2 : (itemsO (some r)).length = r.items.length := rfl
        have hcap' : l.items.length + r.items.length ≤ c := by rw [← hle]; exact hcap
        have x1 : (1 : Int) < ((l.items.length + r.items.length : Nat) : Int) := by omega
        have x2 : (l.items.length : Int) ≤ (c : Int) := by omega
        have x3 : (l.items.length : Int) ≤ ((l.items.length + r.items.length : Nat) : Int) := by omega
        have x4 : l.items.length + r.items.length - l.items.length = r.items.length := by omega
        clear HS hfine hitm hcap hle hle'
        have kT := R.t
        have zT := kT.lt
        have t0 := (kT.cell 0).trans rfl
        rcases bitP_01 key p with hb | hb
        · rw [hb] at KB
          have HP2 : Hid ((done ++ [((p : Int), r.dig wd)]) ++ (proveO wd key (some l)).tu = (proveO wd key o).tu) := by
            show _ = _
            rw [← HP.out]; simp [proveO, proveT, hb]
          have HF2 : Hid ((proveO wd key (some l)).leaf = (proveO wd key o).leaf ∧ (proveO wd key (some l)).key = (proveO wd key o).key ∧ (proveO wd key (some l)).val = (proveO wd key o).val) := by
            have := HF.out
            simp only [proveO, Tr.find, hb, if_true, Nat.one_ne_zero, if_false] at this ⊢
            exact this
          clear HP HF hb
          have HE1 := show Hid (_ = _) from e1
          have HE2 := show Hid (_ = _) from e2
          clear e1 e2
          generalize l.items.length = nl at *
          generalize r.items.length = nr at *
          obtain ⟨ta, tc, hsv, hT⟩ := TurnsAt.of_owns R.row
          subst hsv
          clear hT
          generalize l.dig wd = dl at *
          generalize r.dig wd = dr at *
          go_wp2_with fail
          refine (KF _ R.below).mono ?_
          rintro e w2 ⟨rfl, rfl⟩
          go_wp2_with fail
          refine (KB _).mono ?_
          rintro e w2 ⟨rfl, rfl⟩
          go_wp2_with fail
          refine (KR _ R.below).mono ?_
          rintro e w3 ⟨rfl, b3⟩
          have R3 := R.next b3
          clear R b3 kT zT t0 KF KB KL KR
          have q0 := (R3.p.cell 0).trans rfl
          have f0 := R3.p.frozen 0
          have zp := R3.p.lt
          go_wp2_with (at_builtin; refine wpList_append_lies _ rfl _ _ _ rfl (w.heap.size + 3) 83 i0 (.agg #[.int .i64 0, .int .u64 0]) 2 16 Tryd.underlying45 hinf hz0 hz1 hz2 rfl (by omega) (.slice ta done.length tc) done.length (flatT done) rfl (R3.row.alloc _) ⟨w3.heap.size, 0, none⟩ 1 1 [.int .i64 (p : Int), .int .u64 dr] rfl rfl (cells_pr w3 _ _ _ _ rfl) (by simp [Value.oneCell']) (by omega) ?c3 ?c4 ?c5 (w3.heap.size + 1) (by simp) ?_)
          case c3 => unfold maxLen; omega
          case c4 => omega
          case c5 => simp; omega
          intro g cg w4 hown4 hgrow4 hat4 hlt4
          obtain ⟨p4, R4⟩ := R3.grow hown4 hgrow4
          clear hown4 hgrow4 hat4 hlt4 q0 f0 zp R3
          have q0 := (p4.cell 0).trans rfl
          have f0 := p4.frozen 0
          have zp := p4.lt
          have R4' := show Hid (RPrv _ _ _ _ _ _ _ _) from R4
          clear R4 p4
          go_wp2
          exact ⟨⟨some l, (some ⟨b, off, none⟩), c, _, _, by rw [HE1.out], HSL, HP2, HF2, R4'.out⟩, by simp [lenOf]; omega⟩
        · rw [hb] at KB
          have HP2 : Hid ((done ++ [((p : Int), l.dig wd)]) ++ (proveO wd key (some r)).tu = (proveO wd key o).tu) := by
            show _ = _
            rw [← HP.out]; simp [proveO, proveT, hb]
          have HF2 : Hid ((proveO wd key (some r)).leaf = (proveO wd key o).leaf ∧ (proveO wd key (some r)).key = (proveO wd key o).key ∧ (proveO wd key (some r)).val = (proveO wd key o).val) := by
            have := HF.out
            simp only [proveO, Tr.find, hb, if_true, Nat.one_ne_zero, if_false] at this ⊢
            exact this
          clear HP HF hb
          have HE1 := show Hid (_ = _) from e1
          have HE2 := show Hid (_ = _) from e2
          clear e1 e2
          generalize l.items.length = nl at *
          generalize r.items.length = nr at *
          obtain ⟨ta, tc, hsv, hT⟩ := TurnsAt.of_owns R.row
          subst hsv
          clear hT
          generalize l.dig wd = dl at *
          generalize r.dig wd = dr at *
          go_wp2_with fail
          refine (KF _ R.below).mono ?_
          rintro e w2 ⟨rfl, rfl⟩
          go_wp2_with fail
          refine (KB _).mono ?_
          rintro e w2 ⟨rfl, rfl⟩
          go_wp2_with fail
          refine (KL _ R.below).mono ?_
          rintro e w3 ⟨rfl, b3⟩
          have R3 := R.next b3
          clear R b3 kT zT t0 KF KB KL KR
          have q0 := (R3.p.cell 0).trans rfl
          have f0 := R3.p.frozen 0
          have zp := R3.p.lt
          go_wp2_with (at_builtin; refine wpList_append_lies _ rfl _ _ _ rfl (w.heap.size + 3) 83 i0 (.agg #[.int .i64 0, .int .u64 0]) 2 16 Tryd.underlying45 hinf hz0 hz1 hz2 rfl (by omega) (.slice ta done.length tc) done.length (flatT done) rfl (R3.row.alloc _) ⟨w3.heap.size, 0, none⟩ 1 1 [.int .i64 (p : Int), .int .u64 dl] rfl rfl (cells_pr w3 _ _ _ _ rfl) (by simp [Value.oneCell']) (by omega) ?c3 ?c4 ?c5 (w3.heap.size + 1) (by simp) ?_)
          case c3 => unfold maxLen; omega
          case c4 => omega
          case c5 => simp; omega
          intro g cg w4 hown4 hgrow4 hat4 hlt4
          obtain ⟨p4, R4⟩ := R3.grow hown4 hgrow4
          clear hown4 hgrow4 hat4 hlt4 q0 f0 zp R3
          have q0 := (p4.cell 0).trans rfl
          have f0 := p4.frozen 0
          have zp := p4.lt
          have R4' := show Hid (RPrv _ _ _ _ _ _ _ _) from R4
          clear R4 p4
          go_wp2
          exact ⟨⟨some r, (some ⟨b, off + nl * 2, none⟩), (c - nl), _, _, by rw [HE2.out], HSR, HP2, HF2, R4'.out⟩, by simp [lenOf]; omega⟩
end Go.Proofs.YtfjkgglflmakhaaDoor
