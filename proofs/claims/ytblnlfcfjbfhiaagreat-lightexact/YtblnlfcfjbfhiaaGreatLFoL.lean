/- Follow: the program's. -/
import Derived.Test.YtblnlfcfjbfhiaaGreatM42
namespace Go.Proofs.YtblnlfcfjbfhiaaGreat
open Go.RowKit
set_option linter.unusedVariables false
set_option linter.unusedSimpArgs false

theorem FolAt.app {w W w9 : World} {vb : Nat} {v0 vn : Vw} {ls : List Sg} {i g ec : Nat} {av : Value} {E : Int} (hi : i < ls.length) (hnv : vn.norm = folV v0 (ls.take (i + 1))) (hok : vn.Ok W) (haway : vn.l ≠ [] → ∀ a, vn.a = some a → a.block ≠ vb ∧ a.block ≠ vb + 1 ∧ av.ownBlock ≠ some a.block) (hkv : Blk W vb vn.arr 26) (hkz : Blk W (vb + 1) #[.int .i64 0, .int .i64 0, .int .i64 0, .int .i64 0, .int .u64 0, .slice none 0 0] 26)
    (hown : W.ownsRow (vb + 2) 45 1 av (folE v0.norm (ls.take i)).length (flatE (folE v0.norm (ls.take i)))) (hbel : Below w.heap.size w W) (hvb : w.heap.size ≤ vb) (hE : E = accE (folV v0 (ls.take i)) ls[i])
    (ho : w9.ownsRow (vb + 2) 45 1 (.slice (some ⟨g, 0, none⟩) (i + 1) ec) (folE v0.norm (ls.take i) ++ [E]).length (flatE (folE v0.norm (ls.take i) ++ [E]))) (hg : (W.alloc (.cells #[.int .i64 E] 45)).grownBy w9 av.ownBlock) (hgb : av.ownBlock = some g ∨ g = W.heap.size + 1) :
    FolAt w vb v0 ls (i + 1) vn (.slice (some ⟨g, 0, none⟩) (i + 1) ec) w9 := by
  have bA : Below W.heap.size W (W.alloc (.cells #[.int .i64 E] 45)) := (Below.refl _ _).alloc (Nat.le_refl _) _
  have hlt := hown.lt
  have hbv : ∀ k, av.ownBlock = some k → vb + 2 ≤ k := fun k hk => (hlt k hk).1
  have hkl : ∀ a, vn.a = some a → a.block < W.heap.size ∨ vn.l = [] := fun a ha => by
    rcases hok.sl.at_ with e | ⟨b, off, e, hl, _⟩
    · exact .inr e
    · left
      rw [ha] at e
      injection e with e
      rw [e]
      exact hl
  refine ⟨hnv, ?_, ?_, ?_, ?_, ?_, ?_, hvb⟩
  · exact (hok.below bA).grown hg (fun hz a ha => (haway hz a ha).2.2)
  · intro hz a ha
    refine ⟨(haway hz a ha).1, (haway hz a ha).2.1, ?_⟩
    intro e
    have e : g = a.block := by simpa [Value.ownBlock] using e
    rcases hgb with h | h
    · exact (haway hz a ha).2.2 (by rw [h, e])
    · rcases hkl a ha with q | q
      · omega
      · exact hz q
  · exact (hkv.below bA hkv.lt).grown hg (fun e => by have := hbv _ e; omega)
  · exact (hkz.below bA hkz.lt).grown hg (fun e => by have := hbv _ e; omega)
  · rw [folE_take hi, ← hE]
    have e2 : (folE v0.norm (ls.take i) ++ [E]).length = i + 1 := by rw [List.length_append, err_len (by omega)]; rfl
    rw [e2] at ho
    exact ho
  · exact (hbel.trans (bA.mono hbel.size)).grown hg (by have := hbel.size; simp; omega) (fun k e => by have := hbv k e; omega)

theorem IntsAt.setCell {w : World} {oa : Option Addr} {od : List Int} (h : IntsAt w oa od) {p : Addr} (hne : ∀ a, oa = some a → a.block ≠ p.block) (v : Value) : IntsAt (w.setCell p v) oa od := by
  rcases h with h | ⟨b, off, e, hl, hc⟩
  · exact .inl h
  · have hn : b ≠ p.block := hne _ e
    refine .inr ⟨b, off, e, by simp [World.setCell]; exact hl, fun i x hx => ?_⟩
    rw [World.cell?_setCell_other _ _ _ _ (fun q => hn (by rw [q]))]
    exact hc i x hx
theorem owns_setCell {w : World} {base : Nat} {e : TypeId} {size n : Nat} {v : Value} {xs : List Value} (h : w.ownsRow base e size v n xs) {p : Addr} (hne : ∀ q, v.ownBlock = some q → q ≠ p.block) (x : Value) : (w.setCell p x).ownsRow base e size v n xs := by
  refine ⟨h.1, ?_⟩
  rcases h.2 with h0 | ⟨g, cap, cur, hv, hb, hg, rest⟩
  · exact .inl h0
  · exact .inr ⟨g, cap, cur, hv, hb, by rw [Below.heap_setCell _ _ _ _ (hne g (by rw [hv]; rfl))]; exact hg, rest⟩
theorem made_err (n : Nat) : madeCells (Value.int .i64 0).cells (n * 1) = Array.replicate n (.int .i64 0) := by
  apply Array.ext
  · simp [madeCells]
  · intro i h1 h2
    simp [madeCells, Value.cells, Nat.mod_one]
theorem make_err (n : Nat) (hn : n ≤ 4096) (w : World) : (Instr.makeSlice 41 (.int .i64 0) (.int .i64 n)).run Tryz.prog w = .ok (.slice (some ⟨w.heap.size, 0, none⟩) 0 n) (w.alloc (.cells (Array.replicate n (.int .i64 0)) 45)) := by
  obtain ⟨i0, hinf, hz0, hz1, hz2⟩ := info_parts infoErr
  have := run_make (P := Tryz.prog) w 41 45 i0 (.int .i64 0) Tryz.underlying41 hinf hz0 .i64 .i64 0 n (by omega) (by omega) (by rw [hz2]; omega) (by omega)
  rw [this, hz1]
  simp only [Int.toNat_natCast, Int.toNat_zero]
  rw [made_err]
set_option maxRecDepth 8000 in
set_option maxHeartbeats 3200000 in
theorem follow_any (v0 : Vw) (la : Option Addr) (lc : Nat) (ls : List Sg) (w : World) (hv : v0.Ok w) (hls : SgsAt w la ls) (hn : ls.length ≤ 4096) :
    Calls Tryz.prog 7 #[.agg #[.int .i64 v0.c, .int .i64 v0.wi, .int .i64 v0.ep, .int .i64 v0.h, .int .u64 v0.st, .slice v0.a v0.l.length v0.cap], .slice la ls.length lc] w fun e w' => Followed v0 ls w e w' := by
  have bA : Below w.heap.size w ((w.alloc (.cells #[.int .i64 v0.c, .int .i64 v0.wi, .int .i64 v0.ep, .int .i64 v0.h, .int .u64 v0.st, .slice v0.a v0.l.length v0.cap] 26)).alloc (.cells #[.int .i64 0, .int .i64 0, .int .i64 0, .int .i64 0, .int .u64 0, .slice none 0 0] 26)) := ((Below.refl _ _).alloc (Nat.le_refl _) _).alloc (by simp) _
  have kV := (Blk.new w #[.int .i64 v0.c, .int .i64 v0.wi, .int .i64 v0.ep, .int .i64 v0.h, .int .u64 v0.st, .slice v0.a v0.l.length v0.cap] 26).alloc (.cells #[.int .i64 0, .int .i64 0, .int .i64 0, .int .i64 0, .int .u64 0, .slice none 0 0] 26)
  have kZ := Blk.new (w.alloc (.cells #[.int .i64 v0.c, .int .i64 v0.wi, .int .i64 v0.ep, .int .i64 v0.h, .int .u64 v0.st, .slice v0.a v0.l.length v0.cap] 26)) #[.int .i64 0, .int .i64 0, .int .i64 0, .int .i64 0, .int .u64 0, .slice none 0 0] 26
  simp only [World.size_alloc] at kZ
  go_enter Tryz.func7, Tryz.ntmps7
  go_wp2_with fail
  generalize ((w.alloc (.cells #[.int .i64 v0.c, .int .i64 v0.wi, .int .i64 v0.ep, .int .i64 v0.h, .int .u64 v0.st, .slice v0.a v0.l.length v0.cap] 26)).alloc (.cells #[.int .i64 0, .int .i64 0, .int .i64 0, .int .i64 0, .int .u64 0, .slice none 0 0] 26)) = wA at *
  refine (clone_any v0.a v0.cap v0.l wA hv.few (hv.below bA).sl).mono ?_
  rintro e w1 ⟨lb, cb, rfl, sB, b1, hf1⟩
  have B1 := bA.trans (b1.mono bA.size)
  have k1 := kV.below b1 kV.lt
  have z1 := kZ.below b1 kZ.lt
  have c5 := (k1.cell 5).trans rfl
  have f5 := k1.frozen 5
  have zk := k1.lt
  have hsz := kZ.lt
  clear kV kZ
  go_upto_region 2 with fail
  have k2 := k1.set 5 (.slice lb v0.l.length cb)
  have z2 := z1.setOther ⟨w.heap.size, 5, none⟩ (by simp) (.slice lb v0.l.length cb)
  have B2 : Below w.heap.size w (w1.setCell ⟨w.heap.size, 5, none⟩ (.slice lb v0.l.length cb)) := B1.setCell (Nat.le_refl _) _
  have s2 : SL (w1.setCell ⟨w.heap.size, 5, none⟩ (.slice lb v0.l.length cb)) lb v0.l cb := sB.setCell (fun x hx => by have := hf1 x hx; simp only; omega) _
  have zz2 := z2.lt
  clear k1 z1 c5 f5 zk B1 sB
  generalize w1.setCell ⟨w.heap.size, 5, none⟩ (.slice lb v0.l.length cb) = w2 at *
  have F0 : FolAt w w.heap.size v0 ls 0 ⟨v0.c, v0.wi, v0.ep, v0.h, v0.st, lb, cb, v0.l⟩ (.slice (some ⟨w2.heap.size, 0, none⟩) 0 ls.length) (w2.alloc (.cells (Array.replicate ls.length (.int .i64 0)) 45)) := by
    have bM : Below w2.heap.size w2 (w2.alloc (.cells (Array.replicate ls.length (.int .i64 0)) 45)) := (Below.refl _ _).alloc (Nat.le_refl _) _
    refine ⟨rfl, ⟨hv.ic, hv.iwi, hv.iep, hv.ih, hv.ist, s2.below bM, hv.few, hv.in_⟩, ?_, k2.alloc _, z2.alloc _, ?_, B2.trans (bM.mono B2.size), Nat.le_refl _⟩
    · intro hz a ha
      have h1 := hf1 a ha
      have h2 : a.block < w2.heap.size := by
        rcases s2.at_ with e | ⟨b, off, e, hl, _⟩
        · exact absurd e hz
        · have ha : lb = some a := ha
          rw [ha] at e
          injection e with e
          rw [e]
          exact hl
      exact ⟨by omega, by omega, by simp only [Value.ownBlock]; intro e; injection e with e; omega⟩
    · exact World.ownsRow_made w2 _ _ (by omega) (by unfold maxLen; omega) (by simp)
  have hmk := make_err ls.length hn
  clear hv k2 z2 s2 B2 b1 hf1 zz2 bA hsz
  go_wp2_with (fail)
  go_loopw [6, 20] (fun av iv wv => ∃ (i : Nat) (vi : Vw), i ≤ ls.length ∧ iv = .int .i64 i ∧ FolAt w w.heap.size v0 ls i vi av wv) (fun av iv _ => ls.length - (intOf iv).toNat)
  case atStart => exact ⟨0, _, Nat.zero_le _, rfl, F0⟩
  case round =>
    clear F0 hmk
    generalize u6 = av at *
    obtain ⟨i, ⟨c, wi, ep, h, st, a, cap, l⟩, hi, rfl, F⟩ := hrel
    have x0 := (F.kv.cell 0).trans rfl
    have x1 := (F.kv.cell 1).trans rfl
    have x2 := (F.kv.cell 2).trans rfl
    have x3 := (F.kv.cell 3).trans rfl
    have x4 := (F.kv.cell 4).trans rfl
    have x5 := (F.kv.cell 5).trans rfl
    have zv := F.kv.lt
    by_cases hlt : i < ls.length
    · obtain ⟨b, off, e, hb, hc0, hsok⟩ := (hls.below F.below).one hlt
      subst e
      have hV := folV_take (v := v0) hlt
      have hEE := folE_take (v := v0) hlt
      have HI : Hid (∀ q, q = ls[i] → Hid (folV v0 (ls.take (i + 1)) = stepV (folV v0 (ls.take i)) q)) := fun q hq => by rw [hq]; exact hV
      have HL : Hid ((folE v0.norm (ls.take i)).length = i) := err_len (by omega)
      obtain ⟨s, hs⟩ : ∃ s, s = ls[i] := ⟨_, rfl⟩
      rw [← hs] at hc0 hsok
      have HV := HI.out s hs
      have HS : Hid (s = ls[i]) := hs
      have hlt' : (i : Int) < (ls.length : Int) := by omega
      clear hV hEE HI hs hls
      obtain ⟨hc, hh, hpa, htx, hgu, hst, hre, hbe, hpr, kh, kr, ks, khas, kbl, fa, fcap, fr, sa, scap, sl⟩ := s
      have hcs := fun (k : Nat) (x : Value) (hx : (Sg.arr ⟨hc, hh, hpa, htx, hgu, hst, hre, hbe, hpr, kh, kr, ks, khas, kbl, fa, fcap, fr, sa, scap, sl⟩)[k]? = some x) => hc0 wr (Below.refl _ _) k x hx
      clear hc0
      have s0 := hcs 0 _ rfl
      have s1 := hcs 1 _ rfl
      have s2 := hcs 2 _ rfl
      have s3 := hcs 3 _ rfl
      have s4 := hcs 4 _ rfl
      have s5 := hcs 5 _ rfl
      have s6 := hcs 6 _ rfl
      have s7 := hcs 7 _ rfl
      have s8 := hcs 8 _ rfl
      have s9 := hcs 9 _ rfl
      have s10 := hcs 10 _ rfl
      have s11 := hcs 11 _ rfl
      have s12 := hcs 12 _ rfl
      have s13 := hcs 13 _ rfl
      have s14 := hcs 14 _ rfl
      have s15 := hcs 15 _ rfl
      clear hcs
      have bS : Below wr.heap.size wr (wr.alloc (.cells #[.int .i64 hc, .int .i64 hh, .int .u64 hpa, .int .u64 htx, .int .u64 hgu, .int .u64 hst, .int .u64 hre, .int .u64 hbe, .int .i64 hpr, .int .i64 kh, .int .i64 kr, .int .i64 ks, .bool khas, .int .u64 kbl, .slice fa fr.length fcap, .slice sa sl.length scap] 34)) := (Below.refl _ _).alloc (Nat.le_refl _) _
      have kS := Blk.new wr #[.int .i64 hc, .int .i64 hh, .int .u64 hpa, .int .u64 htx, .int .u64 hgu, .int .u64 hst, .int .u64 hre, .int .u64 hbe, .int .i64 hpr, .int .i64 kh, .int .i64 kr, .int .i64 ks, .bool khas, .int .u64 kbl, .slice fa fr.length fcap, .slice sa sl.length scap] 34
      simp only [Nat.add_zero] at s0
      go_upto_region 6 with fail
      clear s0 s1 s2 s3 s4 s5 s6 s7 s8 s9 s10 s11 s12 s13 s14 s15 x0 x1 x2 x3 x4 x5
      have kv3 := F.kv.below bS F.kv.lt
      have B3 := F.below.trans (bS.mono F.below.size)
      have ok3 := F.ok.below bS
      have sk3 := hsok.below bS
      have zsb := kS.lt
      have zv2 : w.heap.size + 1 < wr.heap.size := F.kz.lt
      have zbS := bS.size
      have HOW : Hid (∀ q, av.ownBlock = some q → q < wr.heap.size) := fun q hq => (F.own.lt q hq).2
      have bS3 := bS
      generalize wr.alloc (.cells #[.int .i64 hc, .int .i64 hh, .int .u64 hpa, .int .u64 htx, .int .u64 hgu, .int .u64 hst, .int .u64 hre, .int .u64 hbe, .int .i64 hpr, .int .i64 kh, .int .i64 kr, .int .i64 ks, .bool khas, .int .u64 kbl, .slice fa fr.length fcap, .slice sa sl.length scap] 34) = w3 at *
      have x0 := (kv3.cell 0).trans rfl
      have x1 := (kv3.cell 1).trans rfl
      have x2 := (kv3.cell 2).trans rfl
      have x3 := (kv3.cell 3).trans rfl
      have x4 := (kv3.cell 4).trans rfl
      have x5 := (kv3.cell 5).trans rfl
      have s0 := (kS.cell 0).trans rfl
      have s1 := (kS.cell 1).trans rfl
      have s2 := (kS.cell 2).trans rfl
      have s3 := (kS.cell 3).trans rfl
      have s4 := (kS.cell 4).trans rfl
      have s5 := (kS.cell 5).trans rfl
      have s6 := (kS.cell 6).trans rfl
      have s7 := (kS.cell 7).trans rfl
      have s8 := (kS.cell 8).trans rfl
      have s9 := (kS.cell 9).trans rfl
      have s10 := (kS.cell 10).trans rfl
      have s11 := (kS.cell 11).trans rfl
      have s12 := (kS.cell 12).trans rfl
      have s13 := (kS.cell 13).trans rfl
      have s14 := (kS.cell 14).trans rfl
      have s15 := (kS.cell 15).trans rfl
      have zv3 := kv3.lt
      go_wp2_with fail
      refine (Lacc ⟨c, wi, ep, h, st, a, cap, l⟩ ⟨hc, hh, hpa, htx, hgu, hst, hre, hbe, hpr, kh, kr, ks, khas, kbl, fa, fcap, fr, sa, scap, sl⟩ w3 ok3 sk3).mono ?_
      rintro e w4 ⟨b4, hE4⟩
      have B4 := B3.trans (b4.mono B3.size)
      have kv4 := kv3.below b4 kv3.lt
      have HN := show Hid (_ = _) from F.nv
      have HE : Hid (accE ⟨c, wi, ep, h, st, a, cap, l⟩ ⟨hc, hh, hpa, htx, hgu, hst, hre, hbe, hpr, kh, kr, ks, khas, kbl, fa, fcap, fr, sa, scap, sl⟩ = accE (folV v0 (ls.take i)) ls[i]) := by
        show _ = _
        rw [← HN.out, ← HS.out]
        rfl
      obtain ⟨E, HEE⟩ : ∃ z, Hid (accE ⟨c, wi, ep, h, st, a, cap, l⟩ ⟨hc, hh, hpa, htx, hgu, hst, hre, hbe, hpr, kh, kr, ks, khas, kbl, fa, fcap, fr, sa, scap, sl⟩ = z) := ⟨_, rfl⟩
      have HE2 : Hid (E = accE (folV v0 (ls.take i)) ls[i]) := by show _ = _; rw [← HEE.out]; exact HE.out
      rw [HEE.out] at hE4
      have kz4 := (F.kz.below bS3 F.kz.lt).below b4 (Nat.lt_of_lt_of_le F.kz.lt bS3.size)
      have own4 := owns_keep (owns_keep F.own bS3) b4
      have ok4 := ok3.below b4
      have aw4 := F.away
      have zb4 := b4.size
      clear F x0 x1 x2 x3 x4 x5 s0 s1 s2 s3 s4 s5 s6 s7 s8 s9 s10 s11 s12 s13 s14 s15 kv3 kS ok3 B3 sk3
      rcases hE4 with ⟨hne, rfl⟩ | ⟨h0, lb2, cb2, rfl, sl4, fr4⟩
      · have hd : (E == 0) = false := by simpa using hne
        have bZ : Below w4.heap.size w4 (w4.alloc (.cells #[.int .i64 0, .int .i64 0, .int .i64 0, .int .i64 0, .int .u64 0, .slice none 0 0] 26)) := (Below.refl _ _).alloc (Nat.le_refl _) _
        have HNV : Hid ((⟨c, wi, ep, h, st, a, cap, l⟩ : Vw).norm = folV v0 (ls.take (i + 1))) := by
          show _ = _
          rw [HV.out, ← HN.out, stepV_norm]
          unfold stepV
          rw [if_neg (by rw [HEE.out]; exact hne)]
        clear hne HN HV HEE HE HS
        go_upto_region 9 with fail
        have B5 := B4.trans (bZ.mono B4.size)
        have kv5 := kv4.below bZ kv4.lt
        have kz5 := kz4.below bZ kz4.lt
        have own5 := owns_keep own4 bZ
        have ok5 := ok4.below bZ
        clear B4 kv4 kz4 own4 ok4 b4
        generalize w4.alloc (.cells #[.int .i64 0, .int .i64 0, .int .i64 0, .int .i64 0, .int .u64 0, .slice none 0 0] 26) = w5 at *
        have own5 : w5.ownsRow (w.heap.size + 2) 45 1 av (folE v0.norm (ls.take i)).length (flatE (folE v0.norm (ls.take i))) := by rw [HL.out]; exact own5
        obtain ⟨g, ec, w9, hr, ho9, hg9, hgb⟩ := app_err w5 (w.heap.size + 2) av _ own5 E (by rw [HL.out]; omega) (by have := kz5.lt; omega) i HL.out
        have F9 : FolAt w w.heap.size v0 ls (i + 1) ⟨c, wi, ep, h, st, a, cap, l⟩ (.slice (some ⟨g, 0, none⟩) (i + 1) ec) w9 := FolAt.app hlt HNV.out ok5 aw4 kv5 kz5 own5 B5 (Nat.le_refl _) HE2.out ho9 hg9 hgb
        clear ho9 hg9 hgb own5 ok5 kv5 kz5 B5 aw4 HNV HE2 HL
        go_wp2_with (at_builtin; refine wpList_append_run rfl _ _ 41 rfl _ _ _ w9 rfl rfl hr ?_)
        exact ⟨⟨i + 1, _, by omega, by go_num, F9⟩, by simp [intOf]; omega⟩
      · have HNV : Hid ((⟨c, wi, ep, hh, hst, lb2, cb2, sl⟩ : Vw).norm = folV v0 (ls.take (i + 1))) := by
          show _ = _
          rw [HV.out, ← HN.out, stepV_norm]
          unfold stepV
          rw [if_pos (by rw [HEE.out]; exact h0)]
          rfl
        subst h0
        have bN : Below w4.heap.size w4 (w4.alloc (.cells #[.int .i64 c, .int .i64 wi, .int .i64 ep, .int .i64 hh, .int .u64 hst, .slice lb2 sl.length cb2] 26)) := (Below.refl _ _).alloc (Nat.le_refl _) _
        have kn := Blk.new w4 #[.int .i64 c, .int .i64 wi, .int .i64 ep, .int .i64 hh, .int .u64 hst, .slice lb2 sl.length cb2] 26
        have zn : w.heap.size + 1 < w4.heap.size := kz4.lt
        have ok4 : (⟨c, wi, ep, hh, hst, lb2, cb2, sl⟩ : Vw).Ok w4 := ⟨ok4.ic, ok4.iwi, ok4.iep, hsok.ihh, hsok.ihst, sl4, hsok.few, hsok.in_⟩
        have hlow := own4.lt
        have aw5 : sl ≠ [] → ∀ a, lb2 = some a → a.block ≠ w.heap.size ∧ a.block ≠ w.heap.size + 1 ∧ av.ownBlock ≠ some a.block := fun hz a ha => by
          have h1 := fr4 a ha
          refine ⟨by omega, by omega, fun q => ?_⟩
          have := HOW.out a.block q
          omega
        clear HN HV HEE HE HS hlow aw4
        go_upto_region 8 with fail
        have B5 := B4.trans (bN.mono B4.size)
        have kv5 := kv4.below bN kv4.lt
        have kz5 := kz4.below bN kz4.lt
        have own5 := owns_keep own4 bN
        have ok5 := ok4.below bN
        clear B4 kv4 kz4 own4 ok4 b4
        generalize w4.alloc (.cells #[.int .i64 c, .int .i64 wi, .int .i64 ep, .int .i64 hh, .int .u64 hst, .slice lb2 sl.length cb2] 26) = w5 at *
        generalize w4.heap.size = nb at *
        have kv6 := ((((((kv5.set 0 (.int .i64 c)).set 1 (.int .i64 wi)).set 2 (.int .i64 ep)).set 3 (.int .i64 hh)).set 4 (.int .u64 hst)).set 5 (.slice lb2 sl.length cb2))
        have kz6 := ((((((kz5.setOther ⟨w.heap.size, 0, none⟩ (by simp) (.int .i64 c)).setOther ⟨w.heap.size, 1, none⟩ (by simp) (.int .i64 wi)).setOther ⟨w.heap.size, 2, none⟩ (by simp) (.int .i64 ep)).setOther ⟨w.heap.size, 3, none⟩ (by simp) (.int .i64 hh)).setOther ⟨w.heap.size, 4, none⟩ (by simp) (.int .u64 hst)).setOther ⟨w.heap.size, 5, none⟩ (by simp) (.slice lb2 sl.length cb2))
        have B6 := ((((((B5.setCell (p := ⟨w.heap.size, 0, none⟩) (Nat.le_refl _) (.int .i64 c)).setCell (p := ⟨w.heap.size, 1, none⟩) (Nat.le_refl _) (.int .i64 wi)).setCell (p := ⟨w.heap.size, 2, none⟩) (Nat.le_refl _) (.int .i64 ep)).setCell (p := ⟨w.heap.size, 3, none⟩) (Nat.le_refl _) (.int .i64 hh)).setCell (p := ⟨w.heap.size, 4, none⟩) (Nat.le_refl _) (.int .u64 hst)).setCell (p := ⟨w.heap.size, 5, none⟩) (Nat.le_refl _) (.slice lb2 sl.length cb2))
        have ok6 := (Vw.Ok.setCell (Vw.Ok.setCell (Vw.Ok.setCell (Vw.Ok.setCell (Vw.Ok.setCell (Vw.Ok.setCell ok5 (p := ⟨w.heap.size, 0, none⟩) (fun hz a ha => by have := fr4 a ha; simp only; omega) (.int .i64 c)) (p := ⟨w.heap.size, 1, none⟩) (fun hz a ha => by have := fr4 a ha; simp only; omega) (.int .i64 wi)) (p := ⟨w.heap.size, 2, none⟩) (fun hz a ha => by have := fr4 a ha; simp only; omega) (.int .i64 ep)) (p := ⟨w.heap.size, 3, none⟩) (fun hz a ha => by have := fr4 a ha; simp only; omega) (.int .i64 hh)) (p := ⟨w.heap.size, 4, none⟩) (fun hz a ha => by have := fr4 a ha; simp only; omega) (.int .u64 hst)) (p := ⟨w.heap.size, 5, none⟩) (fun hz a ha => by have := fr4 a ha; simp only; omega) (.slice lb2 sl.length cb2))
        have own6 := (owns_setCell (owns_setCell (owns_setCell (owns_setCell (owns_setCell (owns_setCell own5 (p := ⟨w.heap.size, 0, none⟩) (fun q hq => by have := (own5.lt q hq).1; simp only; omega) (.int .i64 c)) (p := ⟨w.heap.size, 1, none⟩) (fun q hq => by have := (own5.lt q hq).1; simp only; omega) (.int .i64 wi)) (p := ⟨w.heap.size, 2, none⟩) (fun q hq => by have := (own5.lt q hq).1; simp only; omega) (.int .i64 ep)) (p := ⟨w.heap.size, 3, none⟩) (fun q hq => by have := (own5.lt q hq).1; simp only; omega) (.int .i64 hh)) (p := ⟨w.heap.size, 4, none⟩) (fun q hq => by have := (own5.lt q hq).1; simp only; omega) (.int .u64 hst)) (p := ⟨w.heap.size, 5, none⟩) (fun q hq => by have := (own5.lt q hq).1; simp only; omega) (.slice lb2 sl.length cb2))
        have n0 := (kn.cell 0).trans rfl
        have n1 := (kn.cell 1).trans rfl
        have n2 := (kn.cell 2).trans rfl
        have n3 := (kn.cell 3).trans rfl
        have n4 := (kn.cell 4).trans rfl
        have n5 := (kn.cell 5).trans rfl
        have g0 := (kv5.cell 0).trans rfl
        have f0 := kv5.frozen 0
        have g1 := (kv5.cell 1).trans rfl
        have f1 := kv5.frozen 1
        have g2 := (kv5.cell 2).trans rfl
        have f2 := kv5.frozen 2
        have g3 := (kv5.cell 3).trans rfl
        have f3 := kv5.frozen 3
        have g4 := (kv5.cell 4).trans rfl
        have f4 := kv5.frozen 4
        have g5 := (kv5.cell 5).trans rfl
        have f5 := kv5.frozen 5
        have zn5 := kn.lt
        have zv5 := kv5.lt
        clear kn kv5 kz5 B5 ok5 own5 fr4
        go_upto_region 9 with fail
        clear n0 n1 n2 n3 n4 n5 g0 g1 g2 g3 g4 g5 f0 f1 f2 f3 f4 f5 zn5 zv5
        generalize ((((((w5.setCell ⟨w.heap.size, 0, none⟩ (.int .i64 c)).setCell ⟨w.heap.size, 1, none⟩ (.int .i64 wi)).setCell ⟨w.heap.size, 2, none⟩ (.int .i64 ep)).setCell ⟨w.heap.size, 3, none⟩ (.int .i64 hh)).setCell ⟨w.heap.size, 4, none⟩ (.int .u64 hst)).setCell ⟨w.heap.size, 5, none⟩ (.slice lb2 sl.length cb2)) = w6 at *
        have own6 : w6.ownsRow (w.heap.size + 2) 45 1 av (folE v0.norm (ls.take i)).length (flatE (folE v0.norm (ls.take i))) := by rw [HL.out]; exact own6
        obtain ⟨g, ec, w9, hr, ho9, hg9, hgb⟩ := app_err w6 (w.heap.size + 2) av _ own6 0 (by rw [HL.out]; omega) (by have := kz6.lt; omega) i HL.out
        have F9 : FolAt w w.heap.size v0 ls (i + 1) ⟨c, wi, ep, hh, hst, lb2, cb2, sl⟩ (.slice (some ⟨g, 0, none⟩) (i + 1) ec) w9 := FolAt.app hlt HNV.out ok6 aw5 kv6 kz6 own6 B6 (Nat.le_refl _) HE2.out ho9 hg9 hgb
        clear ho9 hg9 hgb own6 ok6 kv6 kz6 B6 aw5 HNV HE2 HL
        go_wp2_with (at_builtin; refine wpList_append_run rfl _ _ 41 rfl _ _ _ w9 rfl rfl hr ?_)
        exact ⟨⟨i + 1, _, by omega, by go_num, F9⟩, by simp [intOf]; omega⟩
    · have hge : ¬ (i : Int) < (ls.length : Int) := by omega
      have hil : i = ls.length := by omega
      have HT : Hid (ls.take i = ls) := List.take_of_length_le (by omega)
      obtain ⟨ea, ec, rfl, hIA⟩ := errs_at F.own (err_len (by omega))
      subst hil
      have y0 := (F.kz.cell 0).trans rfl
      have y1 := (F.kz.cell 1).trans rfl
      have y2 := (F.kz.cell 2).trans rfl
      have y3 := (F.kz.cell 3).trans rfl
      have y4 := (F.kz.cell 4).trans rfl
      have y5 := (F.kz.cell 5).trans rfl
      have q0 := F.kz.frozen 0
      have q1 := F.kz.frozen 1
      have q2 := F.kz.frozen 2
      have q3 := F.kz.frozen 3
      have q4 := F.kz.frozen 4
      have q5 := F.kz.frozen 5
      have zz := F.kz.lt
      go_wp2
      refine bodyPost_ret (v := .tuple #[.agg #[.int .i64 c, .int .i64 wi, .int .i64 ep, .int .i64 h, .int .u64 st, .slice a l.length cap], .slice ea ls.length ec]) (by simp [results, Tryz.results7, go_sem, y0, y1, y2, y3, y4, y5]) rfl ?_
      refine ⟨⟨c, wi, ep, h, st, a, cap, l⟩, ea, ec, rfl, by rw [F.nv, HT.out], ?_, ?_, ?_⟩
      · iterate 6 refine Vw.Ok.setCell ?_ (fun hz a ha => by have := (F.away hz a ha).2.1; simp only; omega) _
        exact F.ok
      · rw [HT.out] at hIA
        iterate 6 refine IntsAt.setCell ?_ (fun a ha => by have := (F.own.lt a.block (by rw [ha]; rfl)).1; simp only; omega) _
        exact hIA
      · iterate 6 refine Below.setCell ?_ (by show w.heap.size ≤ w.heap.size + 1; omega) _
        exact F.below

end Go.Proofs.YtblnlfcfjbfhiaaGreat
