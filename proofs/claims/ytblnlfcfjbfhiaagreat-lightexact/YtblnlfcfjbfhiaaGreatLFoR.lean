/- Follow: the answer's. -/
import Derived.Test.YtblnlfcfjbfhiaaGreatLFoL
import Derived.Deep.RegionHeld3
namespace Go.Proofs.YtblnlfcfjbfhiaaGreat
open Go.RowKit
set_option linter.unusedVariables false
set_option linter.unusedSimpArgs false

theorem bel_al {wB w : World} (h : Below wB.heap.size wB w) (o : Obj) : Below wB.heap.size wB (w.alloc o) := h.alloc h.size o
theorem bel_st {wB w : World} {p : Addr} (h : Below wB.heap.size wB w) (hp : wB.heap.size ≤ p.block) (v : Value) : Below wB.heap.size wB (w.setCell p v) := h.setCell hp v
theorem own1 {w w' : World} {cs : Array Value} {t : TypeId} (hb : Below (w.alloc (.cells cs t)).drew.heap.size (w.alloc (.cells cs t)).drew w') : Blk w' w.heap.size cs t :=
  (Blk.new w cs t).drew.below hb (by show _ < (w.alloc (.cells cs t)).heap.size; simp)
theorem own2 {w w' : World} {cs : Array Value} {t : TypeId} (hb : Below (w.drew.alloc (.cells cs t)).heap.size (w.drew.alloc (.cells cs t)) w') : Blk w' w.heap.size cs t :=
  (Blk.new w.drew cs t).below hb (by show _ < (w.drew.alloc (.cells cs t)).heap.size; simp)

/-- What lies in the variable behind Accept, where it accepts. -/
def NextIn (wr : World) (c wi ep hh hst : Int) (sl : List (Int × Int)) (xv : Value) (wx : World) : Prop := ∃ b9 lb2 cb2, xv = .pointer (some ⟨b9, 0, none⟩) ∧ wr.heap.size ≤ b9 ∧ Blk wx b9 #[.int .i64 c, .int .i64 wi, .int .i64 ep, .int .i64 hh, .int .u64 hst, .slice lb2 sl.length cb2] 26 ∧ SL wx lb2 sl cb2 ∧ (∀ a, lb2 = some a → wr.heap.size ≤ a.block) ∧ Below wr.heap.size wr wx
theorem NextIn.late {wr w3 : World} {c wi ep hh hst : Int} {sl : List (Int × Int)} {lb2 : Option Addr} {cb2 : Nat} (h : SL w3 lb2 sl cb2) (hf : ∀ a, lb2 = some a → wr.heap.size ≤ a.block) (hb : Below wr.heap.size wr w3) : NextIn wr c wi ep hh hst sl (.pointer (some ⟨w3.heap.size, 0, none⟩)) (w3.alloc (.cells #[.int .i64 c, .int .i64 wi, .int .i64 ep, .int .i64 hh, .int .u64 hst, .slice lb2 sl.length cb2] 26)) :=
  ⟨_, lb2, cb2, rfl, hb.size, Blk.new w3 _ _, h.below ((Below.refl _ _).alloc (Nat.le_refl _) _), hf, hb.alloc hb.size _⟩
theorem NextIn.early {wr w3 : World} {c wi ep hh hst : Int} {sl : List (Int × Int)} {lb2 : Option Addr} {cb2 : Nat} (h : SL w3 lb2 sl cb2) (hf : ∀ a, lb2 = some a → wr.heap.size + 1 ≤ a.block) (hb : Below wr.heap.size wr w3) (hk : Blk w3 wr.heap.size #[.int .i64 0, .int .i64 0, .int .i64 0, .int .i64 0, .int .u64 0, .slice none 0 0] 26) : NextIn wr c wi ep hh hst sl (.pointer (some ⟨wr.heap.size, 0, none⟩)) ((((((w3.setCell ⟨wr.heap.size, 0, none⟩ (.int .i64 c)).setCell ⟨wr.heap.size, 1, none⟩ (.int .i64 wi)).setCell ⟨wr.heap.size, 2, none⟩ (.int .i64 ep)).setCell ⟨wr.heap.size, 3, none⟩ (.int .i64 hh)).setCell ⟨wr.heap.size, 4, none⟩ (.int .u64 hst)).setCell ⟨wr.heap.size, 5, none⟩ (.slice lb2 sl.length cb2)) :=
  ⟨_, lb2, cb2, rfl, Nat.le_refl _, ((((((hk.set 0 (.int .i64 c)).set 1 (.int .i64 wi)).set 2 (.int .i64 ep)).set 3 (.int .i64 hh)).set 4 (.int .u64 hst)).set 5 (.slice lb2 sl.length cb2)), (SL.setCell (SL.setCell (SL.setCell (SL.setCell (SL.setCell (SL.setCell h (a := ⟨wr.heap.size, 0, none⟩) (fun x hx => by have := hf x hx; simp only; omega) (.int .i64 c)) (a := ⟨wr.heap.size, 1, none⟩) (fun x hx => by have := hf x hx; simp only; omega) (.int .i64 wi)) (a := ⟨wr.heap.size, 2, none⟩) (fun x hx => by have := hf x hx; simp only; omega) (.int .i64 ep)) (a := ⟨wr.heap.size, 3, none⟩) (fun x hx => by have := hf x hx; simp only; omega) (.int .i64 hh)) (a := ⟨wr.heap.size, 4, none⟩) (fun x hx => by have := hf x hx; simp only; omega) (.int .u64 hst)) (a := ⟨wr.heap.size, 5, none⟩) (fun x hx => by have := hf x hx; simp only; omega) (.slice lb2 sl.length cb2)), fun a ha => by have := hf a ha; omega, ((((((hb.setCell (p := ⟨wr.heap.size, 0, none⟩) (Nat.le_refl _) (.int .i64 c)).setCell (p := ⟨wr.heap.size, 1, none⟩) (Nat.le_refl _) (.int .i64 wi)).setCell (p := ⟨wr.heap.size, 2, none⟩) (Nat.le_refl _) (.int .i64 ep)).setCell (p := ⟨wr.heap.size, 3, none⟩) (Nat.le_refl _) (.int .i64 hh)).setCell (p := ⟨wr.heap.size, 4, none⟩) (Nat.le_refl _) (.int .u64 hst)).setCell (p := ⟨wr.heap.size, 5, none⟩) (Nat.le_refl _) (.slice lb2 sl.length cb2))⟩

theorem fol_app {w W w9 : World} {vb : Nat} {v0 vn : Vw} {arr : Array Value} {ls : List Sg} {i g ec : Nat} {av : Value} {E : Int} (hi : i < ls.length) (hok : vn.Ok W) (haway : vn.l ≠ [] → ∀ a, vn.a = some a → a.block ≠ vb ∧ a.block ≠ vb + 1 ∧ av.ownBlock ≠ some a.block) (hkv : Blk W vb arr 26) (hkz : Blk W (vb + 1) #[.int .i64 0, .int .i64 0, .int .i64 0, .int .i64 0, .int .u64 0, .slice none 0 0] 26)
    (hown : W.ownsRow (vb + 2) 45 1 av (folE v0.norm (ls.take i)).length (flatE (folE v0.norm (ls.take i)))) (hbel : Below w.heap.size w W) (hvb : w.heap.size ≤ vb) (hE : E = accE (folV v0 (ls.take i)) ls[i])
    (ho : w9.ownsRow (vb + 2) 45 1 (.slice (some ⟨g, 0, none⟩) (i + 1) ec) (folE v0.norm (ls.take i) ++ [E]).length (flatE (folE v0.norm (ls.take i) ++ [E]))) (hg : (W.alloc (.cells #[.int .i64 E] 45)).grownBy w9 av.ownBlock) (hgb : av.ownBlock = some g ∨ g = W.heap.size + 1) :
    vn.Ok w9 ∧ (vn.l ≠ [] → ∀ a, vn.a = some a → a.block ≠ vb ∧ a.block ≠ vb + 1 ∧ (Value.slice (some ⟨g, 0, none⟩) (i + 1) ec).ownBlock ≠ some a.block) ∧ Blk w9 vb arr 26 ∧ Blk w9 (vb + 1) #[.int .i64 0, .int .i64 0, .int .i64 0, .int .i64 0, .int .u64 0, .slice none 0 0] 26 ∧ w9.ownsRow (vb + 2) 45 1 (.slice (some ⟨g, 0, none⟩) (i + 1) ec) (i + 1) (flatE (folE v0.norm (ls.take (i + 1)))) ∧ Below w.heap.size w w9 := by
  have bA : Below W.heap.size W (W.alloc (.cells #[.int .i64 E] 45)) := (Below.refl _ _).alloc (Nat.le_refl _) _
  have hlt := hown.lt
  have hbv : ∀ k, av.ownBlock = some k → vb + 2 ≤ k := fun k hk => (hlt k hk).1
  have hkl : ∀ a, vn.a = some a → a.block < W.heap.size ∨ vn.l = [] := fun a ha => by
    rcases hok.sl.at_ with e | ⟨b, off, e, hl, _⟩
    · exact .inr e
    · left
      rw [ha] at e
      injection e with e
      rw [e]
      exact hl
  refine ⟨?_, ?_, ?_, ?_, ?_, ?_⟩
  · exact (hok.below bA).grown hg (fun hz a ha => (haway hz a ha).2.2)
  · intro hz a ha
    refine ⟨(haway hz a ha).1, (haway hz a ha).2.1, ?_⟩
    intro e
    have e : g = a.block := by simpa [Value.ownBlock] using e
    rcases hgb with h | h
    · exact (haway hz a ha).2.2 (by rw [h, e])
    · rcases hkl a ha with q | q
      · omega
      · exact hz q
  · exact (hkv.below bA hkv.lt).grown hg (fun e => by have := hbv _ e; omega)
  · exact (hkz.below bA hkz.lt).grown hg (fun e => by have := hbv _ e; omega)
  · rw [folE_take hi, ← hE]
    have e2 : (folE v0.norm (ls.take i) ++ [E]).length = i + 1 := by rw [List.length_append, err_len (by omega)]; rfl
    rw [e2] at ho
    exact ho
  · exact (hbel.trans (bA.mono hbel.size)).grown hg (by have := hbel.size; simp; omega) (fun k e => by have := hbv k e; omega)

set_option maxRecDepth 8000 in
set_option maxHeartbeats 6400000 in
theorem rfollow_any (v0 : Vw) (la : Option Addr) (lc : Nat) (ls : List Sg) (w : World) (hv : v0.Ok w) (hls : SgsAt w la ls) (hn : ls.length ≤ 4096) :
    Calls Tryz.prog 8 #[.agg #[.int .i64 v0.c, .int .i64 v0.wi, .int .i64 v0.ep, .int .i64 v0.h, .int .u64 v0.st, .slice v0.a v0.l.length v0.cap], .slice la ls.length lc] w fun e w' => Followed v0 ls w e w' := by
  have bA : Below w.heap.size w ((w.alloc (.cells #[.int .i64 v0.c, .int .i64 v0.wi, .int .i64 v0.ep, .int .i64 v0.h, .int .u64 v0.st, .slice v0.a v0.l.length v0.cap] 26)).alloc (.cells #[.int .i64 0, .int .i64 0, .int .i64 0, .int .i64 0, .int .u64 0, .slice none 0 0] 26)) := ((Below.refl _ _).alloc (Nat.le_refl _) _).alloc (by simp) _
  have kV := (Blk.new w #[.int .i64 v0.c, .int .i64 v0.wi, .int .i64 v0.ep, .int .i64 v0.h, .int .u64 v0.st, .slice v0.a v0.l.length v0.cap] 26).alloc (.cells #[.int .i64 0, .int .i64 0, .int .i64 0, .int .i64 0, .int .u64 0, .slice none 0 0] 26)
  have kZ := Blk.new (w.alloc (.cells #[.int .i64 v0.c, .int .i64 v0.wi, .int .i64 v0.ep, .int .i64 v0.h, .int .u64 v0.st, .slice v0.a v0.l.length v0.cap] 26)) #[.int .i64 0, .int .i64 0, .int .i64 0, .int .i64 0, .int .u64 0, .slice none 0 0] 26
  simp only [World.size_alloc] at kZ
  have F0 : FolAt w w.heap.size v0 ls 0 v0 (.slice none 0 0) ((w.alloc (.cells #[.int .i64 v0.c, .int .i64 v0.wi, .int .i64 v0.ep, .int .i64 v0.h, .int .u64 v0.st, .slice v0.a v0.l.length v0.cap] 26)).alloc (.cells #[.int .i64 0, .int .i64 0, .int .i64 0, .int .i64 0, .int .u64 0, .slice none 0 0] 26)) := by
    refine ⟨rfl, hv.below bA, ?_, kV, kZ, World.ownsRow_nil _ _ _ _, bA, Nat.le_refl _⟩
    intro hz a ha
    rcases hv.sl.at_ with e | ⟨b, off, e, hl, _⟩
    · exact absurd e hz
    · rw [ha] at e
      injection e with e
      subst e
      exact ⟨by simp only; omega, by simp only; omega, by simp [Value.ownBlock]⟩
  go_enter Tryz.func8, Tryz.ntmps8
  go_wp2_with fail
  generalize ((w.alloc (.cells #[.int .i64 v0.c, .int .i64 v0.wi, .int .i64 v0.ep, .int .i64 v0.h, .int .u64 v0.st, .slice v0.a v0.l.length v0.cap] 26)).alloc (.cells #[.int .i64 0, .int .i64 0, .int .i64 0, .int .i64 0, .int .u64 0, .slice none 0 0] 26)) = wA at *
  clear kV kZ bA hv
  go_loopw [6, 7] (fun av iv wv => ∃ (i : Nat) (vi : Vw), i ≤ ls.length ∧ iv = .int .i64 i ∧ FolAt w w.heap.size v0 ls i vi av wv) (fun av iv _ => ls.length - (intOf iv).toNat)
  case atStart => exact ⟨0, _, Nat.zero_le _, rfl, F0⟩
  case round =>
    clear F0
    generalize u6 = av at *
    obtain ⟨i, ⟨c, wi, ep, h, st, a, cap, l⟩, hi, rfl, F⟩ := hrel
    by_cases hlt : i < ls.length
    · obtain ⟨b, off, e, hb, hc0, hsok⟩ := (hls.below F.below).one hlt
      subst e
      have hV := folV_take (v := v0) hlt
      have HI : Hid (∀ q, q = ls[i] → Hid (folV v0 (ls.take (i + 1)) = stepV (folV v0 (ls.take i)) q)) := fun q hq => by rw [hq]; exact hV
      have HL : Hid ((folE v0.norm (ls.take i)).length = i) := err_len (by omega)
      obtain ⟨s, hs⟩ : ∃ s, s = ls[i] := ⟨_, rfl⟩
      rw [← hs] at hc0 hsok
      have HV := HI.out s hs
      have HS : Hid (s = ls[i]) := hs
      have hlt' : (i : Int) < (ls.length : Int) := by omega
      clear hV HI hs hls
      obtain ⟨hc, hh, hpa, htx, hgu, hst, hre, hbe, hpr, kh, kr, ks, khas, kbl, fa, fcap, fr, sa, scap, sl⟩ := s
      have zb : b < wr.heap.size := hb
      have zv : w.heap.size < wr.heap.size := F.kv.lt
      have V0 : ∀ w', Below wr.heap.size wr w' → w'.cell? ⟨w.heap.size, 0, none⟩ = some (.int .i64 c) := fun w' hb => ((F.kv.below hb F.kv.lt).cell 0).trans rfl
      have V1 : ∀ w', Below wr.heap.size wr w' → w'.cell? ⟨w.heap.size, 1, none⟩ = some (.int .i64 wi) := fun w' hb => ((F.kv.below hb F.kv.lt).cell 1).trans rfl
      have V2 : ∀ w', Below wr.heap.size wr w' → w'.cell? ⟨w.heap.size, 2, none⟩ = some (.int .i64 ep) := fun w' hb => ((F.kv.below hb F.kv.lt).cell 2).trans rfl
      have V3 : ∀ w', Below wr.heap.size wr w' → w'.cell? ⟨w.heap.size, 3, none⟩ = some (.int .i64 h) := fun w' hb => ((F.kv.below hb F.kv.lt).cell 3).trans rfl
      have V4 : ∀ w', Below wr.heap.size wr w' → w'.cell? ⟨w.heap.size, 4, none⟩ = some (.int .u64 st) := fun w' hb => ((F.kv.below hb F.kv.lt).cell 4).trans rfl
      have V5 : ∀ w', Below wr.heap.size wr w' → w'.cell? ⟨w.heap.size, 5, none⟩ = some (.slice a l.length cap) := fun w' hb => ((F.kv.below hb F.kv.lt).cell 5).trans rfl
      have S0 : ∀ w', Below wr.heap.size wr w' → w'.cell? ⟨b, off + i * 16, none⟩ = some (.int .i64 hc) := fun w' hb => hc0 w' hb 0 _ rfl
      have S1 : ∀ w', Below wr.heap.size wr w' → w'.cell? ⟨b, off + i * 16 + 1, none⟩ = some (.int .i64 hh) := fun w' hb => hc0 w' hb 1 _ rfl
      have S2 : ∀ w', Below wr.heap.size wr w' → w'.cell? ⟨b, off + i * 16 + 2, none⟩ = some (.int .u64 hpa) := fun w' hb => hc0 w' hb 2 _ rfl
      have S3 : ∀ w', Below wr.heap.size wr w' → w'.cell? ⟨b, off + i * 16 + 3, none⟩ = some (.int .u64 htx) := fun w' hb => hc0 w' hb 3 _ rfl
      have S4 : ∀ w', Below wr.heap.size wr w' → w'.cell? ⟨b, off + i * 16 + 4, none⟩ = some (.int .u64 hgu) := fun w' hb => hc0 w' hb 4 _ rfl
      have S5 : ∀ w', Below wr.heap.size wr w' → w'.cell? ⟨b, off + i * 16 + 5, none⟩ = some (.int .u64 hst) := fun w' hb => hc0 w' hb 5 _ rfl
      have S6 : ∀ w', Below wr.heap.size wr w' → w'.cell? ⟨b, off + i * 16 + 6, none⟩ = some (.int .u64 hre) := fun w' hb => hc0 w' hb 6 _ rfl
      have S7 : ∀ w', Below wr.heap.size wr w' → w'.cell? ⟨b, off + i * 16 + 7, none⟩ = some (.int .u64 hbe) := fun w' hb => hc0 w' hb 7 _ rfl
      have S8 : ∀ w', Below wr.heap.size wr w' → w'.cell? ⟨b, off + i * 16 + 8, none⟩ = some (.int .i64 hpr) := fun w' hb => hc0 w' hb 8 _ rfl
      have S9 : ∀ w', Below wr.heap.size wr w' → w'.cell? ⟨b, off + i * 16 + 9, none⟩ = some (.int .i64 kh) := fun w' hb => hc0 w' hb 9 _ rfl
      have S10 : ∀ w', Below wr.heap.size wr w' → w'.cell? ⟨b, off + i * 16 + 10, none⟩ = some (.int .i64 kr) := fun w' hb => hc0 w' hb 10 _ rfl
      have S11 : ∀ w', Below wr.heap.size wr w' → w'.cell? ⟨b, off + i * 16 + 11, none⟩ = some (.int .i64 ks) := fun w' hb => hc0 w' hb 11 _ rfl
      have S12 : ∀ w', Below wr.heap.size wr w' → w'.cell? ⟨b, off + i * 16 + 12, none⟩ = some (.bool khas) := fun w' hb => hc0 w' hb 12 _ rfl
      have S13 : ∀ w', Below wr.heap.size wr w' → w'.cell? ⟨b, off + i * 16 + 13, none⟩ = some (.int .u64 kbl) := fun w' hb => hc0 w' hb 13 _ rfl
      have S14 : ∀ w', Below wr.heap.size wr w' → w'.cell? ⟨b, off + i * 16 + 14, none⟩ = some (.slice fa fr.length fcap) := fun w' hb => hc0 w' hb 14 _ rfl
      have S15 : ∀ w', Below wr.heap.size wr w' → w'.cell? ⟨b, off + i * 16 + 15, none⟩ = some (.slice sa sl.length scap) := fun w' hb => hc0 w' hb 15 _ rfl
      have HN := show Hid (_ = _) from F.nv
      have HE : Hid (accE ⟨c, wi, ep, h, st, a, cap, l⟩ ⟨hc, hh, hpa, htx, hgu, hst, hre, hbe, hpr, kh, kr, ks, khas, kbl, fa, fcap, fr, sa, scap, sl⟩ = accE (folV v0 (ls.take i)) ls[i]) := by
        show _ = _
        rw [← HN.out, ← HS.out]
        rfl
      have KA := fun (y : World) (hy : Below wr.heap.size wr y) => Racc ⟨c, wi, ep, h, st, a, cap, l⟩ ⟨hc, hh, hpa, htx, hgu, hst, hre, hbe, hpr, kh, kr, ks, khas, kbl, fa, fcap, fr, sa, scap, sl⟩ y (F.ok.below hy) (hsok.below hy)
      obtain ⟨E, HEE⟩ : ∃ z, Hid (accE ⟨c, wi, ep, h, st, a, cap, l⟩ ⟨hc, hh, hpa, htx, hgu, hst, hre, hbe, hpr, kh, kr, ks, khas, kbl, fa, fcap, fr, sa, scap, sl⟩ = z) := ⟨_, rfl⟩
      have HE2 : Hid (E = accE (folV v0 (ls.take i)) ls[i]) := by show _ = _; rw [← HEE.out]; exact HE.out
      rw [HEE.out] at KA
      have bw : Below wr.heap.size wr wr := Below.refl _ _
      have HF := show Hid (FolAt _ _ _ _ _ _ _ _) from F
      clear F hc0
      by_cases hE0 : E = 0
      rotate_left
      · have hd : (E == 0) = false := by simpa using hE0
        have HNV : Hid ((⟨c, wi, ep, h, st, a, cap, l⟩ : Vw).norm = folV v0 (ls.take (i + 1))) := by
          show _ = _
          rw [HV.out, ← HN.out, stepV_norm]
          unfold stepV
          rw [if_neg (by rw [HEE.out]; exact hE0)]
        have KA : ∀ y : World, Below wr.heap.size wr y → Calls Tryz.prog 13 #[.agg #[.int .i64 c, .int .i64 wi, .int .i64 ep, .int .i64 h, .int .u64 st, .slice a l.length cap], .agg #[.int .i64 hc, .int .i64 hh, .int .u64 hpa, .int .u64 htx, .int .u64 hgu, .int .u64 hst, .int .u64 hre, .int .u64 hbe, .int .i64 hpr, .int .i64 kh, .int .i64 kr, .int .i64 ks, .bool khas, .int .u64 kbl, .slice fa fr.length fcap, .slice sa sl.length scap]] y fun e w' => e = .returned (.tuple #[.agg #[.int .i64 0, .int .i64 0, .int .i64 0, .int .i64 0, .int .u64 0, .slice none 0 0], .int .i64 E]) ∧ Below y.heap.size y w' := fun y hy => (KA y hy).mono fun e w' ⟨q1, q2⟩ => by
          rcases q2 with ⟨_, q⟩ | ⟨q, _⟩
          · exact ⟨q, q1⟩
          · exact absurd q hE0
        clear hE0 HN HV HEE HE HS hsok
        go_upto_region 5 with fail
        go_cut [8, 9] (fun yv ev wx => ev = .int .i64 E ∧ Below wr.heap.size wr wx)
        case first =>
          have bw0 : Below wr.heap.size wr wr.drew := bw.drew
          refine wp_region_held (S := fun w' => Below wr.heap.size wr w') (by kernel_rfl) ?_
          refine wpAnyH_take (i := 0) (v := .agg #[.int .i64 c, .int .i64 wi, .int .i64 ep, .int .i64 h, .int .u64 st, .slice a l.length cap]) rfl (by kernel_rfl) (by kernel_rfl) (by kernel_rfl) (fun _ _ _ h => h) (Or.inl ⟨by kernel_rfl, ?_⟩) (by assumption) ?_
          · intro w' hSw
            have yV0 := V0 _ hSw
            have yV1 := V1 _ hSw
            have yV2 := V2 _ hSw
            have yV3 := V3 _ hSw
            have yV4 := V4 _ hSw
            have yV5 := V5 _ hSw
            go_simp
            first | (with_reducible rfl) | done | assumption | skip
          simp only [Act.put, List.getElem_toArray, List.getElem_cons_succ, List.getElem_cons_zero, List.setIfInBounds_toArray, List.set_cons_zero, List.set_cons_succ]
          refine wpAnyH_take (i := 1) (v := ?_) rfl (by kernel_rfl) (by kernel_rfl) (by kernel_rfl) (fun _ _ _ h => h) (Or.inl ⟨by kernel_rfl, ?_⟩) (by assumption) ?_
          rotate_left
          · intro w' hSw
            go_simp
            first | (with_reducible rfl) | done | assumption | skip
          simp only [Act.put, List.getElem_toArray, List.getElem_cons_succ, List.getElem_cons_zero, List.setIfInBounds_toArray, List.set_cons_zero, List.set_cons_succ]
          refine wpAnyH_take (i := 2) (v := ?_) rfl (by kernel_rfl) (by kernel_rfl) (by kernel_rfl) (fun _ _ _ h => h) (Or.inl ⟨by kernel_rfl, ?_⟩) (by assumption) ?_
          rotate_left
          · intro w' hSw
            go_simp
            first | (with_reducible rfl) | done | assumption | skip
          simp only [Act.put, List.getElem_toArray, List.getElem_cons_succ, List.getElem_cons_zero, List.setIfInBounds_toArray, List.set_cons_zero, List.set_cons_succ]
          refine wpAnyH_take (i := 3) (v := ?_) rfl (by kernel_rfl) (by kernel_rfl) (by kernel_rfl) (fun _ _ _ h => h) (Or.inl ⟨by kernel_rfl, ?_⟩) (by assumption) ?_
          rotate_left
          · intro w' hSw
            go_simp
            first | (with_reducible rfl) | done | assumption | skip
          simp only [Act.put, List.getElem_toArray, List.getElem_cons_succ, List.getElem_cons_zero, List.setIfInBounds_toArray, List.set_cons_zero, List.set_cons_succ]
          refine wpAnyH_take (i := 4) (v := .agg #[.int .i64 hc, .int .i64 hh, .int .u64 hpa, .int .u64 htx, .int .u64 hgu, .int .u64 hst, .int .u64 hre, .int .u64 hbe, .int .i64 hpr, .int .i64 kh, .int .i64 kr, .int .i64 ks, .bool khas, .int .u64 kbl, .slice fa fr.length fcap, .slice sa sl.length scap]) rfl (by kernel_rfl) (by kernel_rfl) (by kernel_rfl) (fun _ _ _ h => h) (Or.inl ⟨by kernel_rfl, ?_⟩) (by assumption) ?_
          · intro w' hSw
            have yS0 := S0 _ hSw
            have yS1 := S1 _ hSw
            have yS2 := S2 _ hSw
            have yS3 := S3 _ hSw
            have yS4 := S4 _ hSw
            have yS5 := S5 _ hSw
            have yS6 := S6 _ hSw
            have yS7 := S7 _ hSw
            have yS8 := S8 _ hSw
            have yS9 := S9 _ hSw
            have yS10 := S10 _ hSw
            have yS11 := S11 _ hSw
            have yS12 := S12 _ hSw
            have yS13 := S13 _ hSw
            have yS14 := S14 _ hSw
            have yS15 := S15 _ hSw
            go_simp
            first | (with_reducible rfl) | done | assumption | skip
          simp only [Act.put, List.getElem_toArray, List.getElem_cons_succ, List.getElem_cons_zero, List.setIfInBounds_toArray, List.set_cons_zero, List.set_cons_succ]
          clear V0 V1 V2 V3 V4 V5 S0 S1 S2 S3 S4 S5 S6 S7 S8 S9 S10 S11 S12 S13 S14 S15
          refine wpAnyH_ready (rs := [5, 9]) (by kernel_rfl) (by simp) ?_
          refine AllReadyH.cons rfl (fun K hK => ?_) (AllReadyH.cons rfl (fun K hK => ?_) AllReadyH.nil)
          · go_simp
            refine (KA _ (by assumption)).mono ?_
            rintro e w3 ⟨rfl, b3⟩
            have hNext : Below wr.heap.size wr w3 := Below.trans bw0 (b3.mono (Below.size bw0))
            refine hK.out _ _ hNext (fun _ => ?_)
            clear hK K
            try simp only [Act.put, List.getElem_toArray, List.getElem_cons_succ, List.getElem_cons_zero, List.setIfInBounds_toArray, List.set_cons_zero, List.set_cons_succ]
            refine wpAnyH_take (i := 6) (v := ?_) rfl (by kernel_rfl) (by kernel_rfl) (by kernel_rfl) (fun _ _ _ h => h) (Or.inl ⟨by kernel_rfl, ?_⟩) (by assumption) ?_
            rotate_left
            · intro w' hSw
              go_simp
              first | (with_reducible rfl) | done | assumption | skip
            simp only [Act.put, List.getElem_toArray, List.getElem_cons_succ, List.getElem_cons_zero, List.setIfInBounds_toArray, List.set_cons_zero, List.set_cons_succ]
            refine wpAnyH_take (i := 7) (v := ?_) rfl (by kernel_rfl) (by kernel_rfl) (by kernel_rfl) (fun _ _ _ h => h) (Or.inl ⟨by kernel_rfl, ?_⟩) (by assumption) ?_
            rotate_left
            · intro w' hSw
              go_simp
              first | (with_reducible rfl) | done | assumption | skip
            simp only [Act.put, List.getElem_toArray, List.getElem_cons_succ, List.getElem_cons_zero, List.setIfInBounds_toArray, List.set_cons_zero, List.set_cons_succ]
            refine wpAnyH_take (i := 8) (v := ?_) rfl (by kernel_rfl) (by kernel_rfl) (by kernel_rfl) (fun _ _ _ h => h) (Or.inl ⟨by kernel_rfl, ?_⟩) (by assumption) ?_
            rotate_left
            · intro w' hSw
              go_simp
              first | (with_reducible rfl) | done | assumption | skip
            simp only [Act.put, List.getElem_toArray, List.getElem_cons_succ, List.getElem_cons_zero, List.setIfInBounds_toArray, List.set_cons_zero, List.set_cons_succ]
            refine wpAnyH_ready (rs := [9]) (by kernel_rfl) (by simp) ?_
            refine AllReadyH.cons rfl (fun K hK => ?_) AllReadyH.nil
            go_simp
            refine hK.out _ _ (bel_al hNext _) (fun _ => ?_)
            clear hK K
            try simp only [Act.put, List.getElem_toArray, List.getElem_cons_succ, List.getElem_cons_zero, List.setIfInBounds_toArray, List.set_cons_zero, List.set_cons_succ]
            refine wpAnyH_ready (rs := [10]) (by kernel_rfl) (by simp) ?_
            refine AllReadyH.cons rfl (fun K hK => ?_) AllReadyH.nil
            go_simp
            refine hK.out _ _ (bel_al hNext _) (fun _ => ?_)
            clear hK K
            try simp only [Act.put, List.getElem_toArray, List.getElem_cons_succ, List.getElem_cons_zero, List.setIfInBounds_toArray, List.set_cons_zero, List.set_cons_succ]
            refine wpAnyH_take (i := 11) (v := ?_) rfl (by kernel_rfl) (by kernel_rfl) (by kernel_rfl) (fun _ _ _ h => h) (Or.inl ⟨by kernel_rfl, ?_⟩) (by assumption) ?_
            rotate_left
            · intro w' hSw
              go_simp
              first | (with_reducible rfl) | done | assumption | skip
            simp only [Act.put, List.getElem_toArray, List.getElem_cons_succ, List.getElem_cons_zero, List.setIfInBounds_toArray, List.set_cons_zero, List.set_cons_succ]
            refine wpAnyH_done (by kernel_rfl) ?_ _
            go_wp2
            go_meet
            case rel => exact ⟨rfl, bel_al hNext _⟩
          · go_simp
            have bw1 := bel_al bw0 (.cells #[.int .i64 0, .int .i64 0, .int .i64 0, .int .i64 0, .int .u64 0, .slice none 0 0] 26)
            refine hK.out _ _ bw1 (fun _ => ?_)
            clear hK K
            try simp only [Act.put, List.getElem_toArray, List.getElem_cons_succ, List.getElem_cons_zero, List.setIfInBounds_toArray, List.set_cons_zero, List.set_cons_succ]
            refine wpAnyH_ready (rs := [5]) (by kernel_rfl) (by simp) ?_
            refine AllReadyH.cons rfl (fun K hK => ?_) AllReadyH.nil
            go_simp
            refine (KA _ (by assumption)).mono ?_
            rintro e w3 ⟨rfl, b3⟩
            have hNext : Below wr.heap.size wr w3 := Below.trans bw1 (b3.mono (Below.size bw1))
            have ow := own2 b3
            have oc0 := (ow.cell 0).trans rfl
            have of0 := ow.frozen 0
            have oc1 := (ow.cell 1).trans rfl
            have of1 := ow.frozen 1
            have oc2 := (ow.cell 2).trans rfl
            have of2 := ow.frozen 2
            have oc3 := (ow.cell 3).trans rfl
            have of3 := ow.frozen 3
            have oc4 := (ow.cell 4).trans rfl
            have of4 := ow.frozen 4
            have oc5 := (ow.cell 5).trans rfl
            have of5 := ow.frozen 5
            have ol := ow.lt
            refine hK.out _ _ hNext (fun _ => ?_)
            clear hK K
            try simp only [Act.put, List.getElem_toArray, List.getElem_cons_succ, List.getElem_cons_zero, List.setIfInBounds_toArray, List.set_cons_zero, List.set_cons_succ]
            refine wpAnyH_take (i := 6) (v := ?_) rfl (by kernel_rfl) (by kernel_rfl) (by kernel_rfl) (fun _ _ _ h => h) (Or.inl ⟨by kernel_rfl, ?_⟩) (by assumption) ?_
            rotate_left
            · intro w' hSw
              go_simp
              first | (with_reducible rfl) | done | assumption | skip
            simp only [Act.put, List.getElem_toArray, List.getElem_cons_succ, List.getElem_cons_zero, List.setIfInBounds_toArray, List.set_cons_zero, List.set_cons_succ]
            refine wpAnyH_take (i := 7) (v := ?_) rfl (by kernel_rfl) (by kernel_rfl) (by kernel_rfl) (fun _ _ _ h => h) (Or.inl ⟨by kernel_rfl, ?_⟩) (by assumption) ?_
            rotate_left
            · intro w' hSw
              go_simp
              first | (with_reducible rfl) | done | assumption | skip
            simp only [Act.put, List.getElem_toArray, List.getElem_cons_succ, List.getElem_cons_zero, List.setIfInBounds_toArray, List.set_cons_zero, List.set_cons_succ]
            refine wpAnyH_take (i := 8) (v := ?_) rfl (by kernel_rfl) (by kernel_rfl) (by kernel_rfl) (fun _ _ _ h => h) (Or.inl ⟨by kernel_rfl, ?_⟩) (by assumption) ?_
            rotate_left
            · intro w' hSw
              go_simp
              first | (with_reducible rfl) | done | assumption | skip
            simp only [Act.put, List.getElem_toArray, List.getElem_cons_succ, List.getElem_cons_zero, List.setIfInBounds_toArray, List.set_cons_zero, List.set_cons_succ]
            refine wpAnyH_ready (rs := [10]) (by kernel_rfl) (by simp) ?_
            refine AllReadyH.cons rfl (fun K hK => ?_) AllReadyH.nil
            go_simp
            refine hK.out _ _ (bel_st (bel_st (bel_st (bel_st (bel_st (bel_st hNext (Nat.le_refl _) _) (Nat.le_refl _) _) (Nat.le_refl _) _) (Nat.le_refl _) _) (Nat.le_refl _) _) (Nat.le_refl _) _) (fun _ => ?_)
            clear hK K
            try simp only [Act.put, List.getElem_toArray, List.getElem_cons_succ, List.getElem_cons_zero, List.setIfInBounds_toArray, List.set_cons_zero, List.set_cons_succ]
            refine wpAnyH_take (i := 11) (v := ?_) rfl (by kernel_rfl) (by kernel_rfl) (by kernel_rfl) (fun _ _ _ h => h) (Or.inl ⟨by kernel_rfl, ?_⟩) (by assumption) ?_
            rotate_left
            · intro w' hSw
              go_simp
              first | (with_reducible rfl) | done | assumption | skip
            simp only [Act.put, List.getElem_toArray, List.getElem_cons_succ, List.getElem_cons_zero, List.setIfInBounds_toArray, List.set_cons_zero, List.set_cons_succ]
            refine wpAnyH_done (by kernel_rfl) ?_ _
            go_wp2
            go_meet
            case rel => exact ⟨rfl, (bel_st (bel_st (bel_st (bel_st (bel_st (bel_st hNext (Nat.le_refl _) _) (Nat.le_refl _) _) (Nat.le_refl _) _) (Nat.le_refl _) _) (Nat.le_refl _) _) (Nat.le_refl _) _)⟩
        case rest =>
          obtain ⟨rfl, bx⟩ := hcut
          generalize wc = wx at *
          have F := HF.out
          have B5 := F.below.trans (bx.mono F.below.size)
          have kv5 := F.kv.below bx F.kv.lt
          have kz5 := F.kz.below bx F.kz.lt
          have own5 := owns_keep F.own bx
          have ok5 := F.ok.below bx
          have aw4 := F.away
          have own5 : wx.ownsRow (w.heap.size + 2) 45 1 av (folE v0.norm (ls.take i)).length (flatE (folE v0.norm (ls.take i))) := by rw [HL.out]; exact own5
          obtain ⟨g, ec, w9, hr, ho9, hg9, hgb⟩ := app_err wx (w.heap.size + 2) av _ own5 E (by rw [HL.out]; omega) (by have := kz5.lt; omega) i HL.out
          have F9 : FolAt w w.heap.size v0 ls (i + 1) ⟨c, wi, ep, h, st, a, cap, l⟩ (.slice (some ⟨g, 0, none⟩) (i + 1) ec) w9 := FolAt.app hlt HNV.out ok5 aw4 kv5 kz5 own5 B5 (Nat.le_refl _) HE2.out ho9 hg9 hgb
          clear ho9 hg9 hgb own5 ok5 kv5 kz5 B5 aw4 HNV HE2 HL F HF KA bx V0 V1 V2 V3 V4 V5 S0 S1 S2 S3 S4 S5 S6 S7 S8 S9 S10 S11 S12 S13 S14 S15
          go_wp2_with (at_builtin; refine wpList_append_run rfl _ _ 41 rfl _ _ _ w9 rfl rfl hr ?_)
          exact ⟨⟨i + 1, _, by omega, by go_num, F9⟩, by simp [intOf]; omega⟩
      · subst hE0
        have HNV : Hid (∀ lb2 cb2, (⟨c, wi, ep, hh, hst, lb2, cb2, sl⟩ : Vw).norm = folV v0 (ls.take (i + 1))) := by
          intro lb2 cb2
          rw [HV.out, ← HN.out, stepV_norm]
          unfold stepV
          rw [if_pos HEE.out]
          rfl
        have HK := show Hid (Sg.Ok _ _) from hsok
        clear HN HV HEE HE HS hsok
        have KA : ∀ y : World, Below wr.heap.size wr y → Calls Tryz.prog 13 #[.agg #[.int .i64 c, .int .i64 wi, .int .i64 ep, .int .i64 h, .int .u64 st, .slice a l.length cap], .agg #[.int .i64 hc, .int .i64 hh, .int .u64 hpa, .int .u64 htx, .int .u64 hgu, .int .u64 hst, .int .u64 hre, .int .u64 hbe, .int .i64 hpr, .int .i64 kh, .int .i64 kr, .int .i64 ks, .bool khas, .int .u64 kbl, .slice fa fr.length fcap, .slice sa sl.length scap]] y fun e w' => ∃ lb2 cb2, e = .returned (.tuple #[.agg #[.int .i64 c, .int .i64 wi, .int .i64 ep, .int .i64 hh, .int .u64 hst, .slice lb2 sl.length cb2], .int .i64 0]) ∧ SL w' lb2 sl cb2 ∧ (∀ a, lb2 = some a → y.heap.size ≤ a.block) ∧ Below y.heap.size y w' := fun y hy => (KA y hy).mono fun e w' ⟨q1, q2⟩ => by
          rcases q2 with ⟨q, _⟩ | ⟨_, lb2, cb2, q, q3, q4⟩
          · exact absurd rfl q
          · exact ⟨lb2, cb2, q, q3, q4, q1⟩
        go_upto_region 5 with fail
        go_cut [8, 9] (fun yv ev wx => ev = .int .i64 0 ∧ NextIn wr c wi ep hh hst sl yv wx)
        case first =>
          have bw0 : Below wr.heap.size wr wr.drew := bw.drew
          refine wp_region_held (S := fun w' => Below wr.heap.size wr w') (by kernel_rfl) ?_
          refine wpAnyH_take (i := 0) (v := .agg #[.int .i64 c, .int .i64 wi, .int .i64 ep, .int .i64 h, .int .u64 st, .slice a l.length cap]) rfl (by kernel_rfl) (by kernel_rfl) (by kernel_rfl) (fun _ _ _ h => h) (Or.inl ⟨by kernel_rfl, ?_⟩) (by assumption) ?_
          · intro w' hSw
            have yV0 := V0 _ hSw
            have yV1 := V1 _ hSw
            have yV2 := V2 _ hSw
            have yV3 := V3 _ hSw
            have yV4 := V4 _ hSw
            have yV5 := V5 _ hSw
            go_simp
            first | (with_reducible rfl) | done | assumption | skip
          simp only [Act.put, List.getElem_toArray, List.getElem_cons_succ, List.getElem_cons_zero, List.setIfInBounds_toArray, List.set_cons_zero, List.set_cons_succ]
          refine wpAnyH_take (i := 1) (v := ?_) rfl (by kernel_rfl) (by kernel_rfl) (by kernel_rfl) (fun _ _ _ h => h) (Or.inl ⟨by kernel_rfl, ?_⟩) (by assumption) ?_
          rotate_left
          · intro w' hSw
            go_simp
            first | (with_reducible rfl) | done | assumption | skip
          simp only [Act.put, List.getElem_toArray, List.getElem_cons_succ, List.getElem_cons_zero, List.setIfInBounds_toArray, List.set_cons_zero, List.set_cons_succ]
          refine wpAnyH_take (i := 2) (v := ?_) rfl (by kernel_rfl) (by kernel_rfl) (by kernel_rfl) (fun _ _ _ h => h) (Or.inl ⟨by kernel_rfl, ?_⟩) (by assumption) ?_
          rotate_left
          · intro w' hSw
            go_simp
            first | (with_reducible rfl) | done | assumption | skip
          simp only [Act.put, List.getElem_toArray, List.getElem_cons_succ, List.getElem_cons_zero, List.setIfInBounds_toArray, List.set_cons_zero, List.set_cons_succ]
          refine wpAnyH_take (i := 3) (v := ?_) rfl (by kernel_rfl) (by kernel_rfl) (by kernel_rfl) (fun _ _ _ h => h) (Or.inl ⟨by kernel_rfl, ?_⟩) (by assumption) ?_
          rotate_left
          · intro w' hSw
            go_simp
            first | (with_reducible rfl) | done | assumption | skip
          simp only [Act.put, List.getElem_toArray, List.getElem_cons_succ, List.getElem_cons_zero, List.setIfInBounds_toArray, List.set_cons_zero, List.set_cons_succ]
          refine wpAnyH_take (i := 4) (v := .agg #[.int .i64 hc, .int .i64 hh, .int .u64 hpa, .int .u64 htx, .int .u64 hgu, .int .u64 hst, .int .u64 hre, .int .u64 hbe, .int .i64 hpr, .int .i64 kh, .int .i64 kr, .int .i64 ks, .bool khas, .int .u64 kbl, .slice fa fr.length fcap, .slice sa sl.length scap]) rfl (by kernel_rfl) (by kernel_rfl) (by kernel_rfl) (fun _ _ _ h => h) (Or.inl ⟨by kernel_rfl, ?_⟩) (by assumption) ?_
          · intro w' hSw
            have yS0 := S0 _ hSw
            have yS1 := S1 _ hSw
            have yS2 := S2 _ hSw
            have yS3 := S3 _ hSw
            have yS4 := S4 _ hSw
            have yS5 := S5 _ hSw
            have yS6 := S6 _ hSw
            have yS7 := S7 _ hSw
            have yS8 := S8 _ hSw
            have yS9 := S9 _ hSw
            have yS10 := S10 _ hSw
            have yS11 := S11 _ hSw
            have yS12 := S12 _ hSw
            have yS13 := S13 _ hSw
            have yS14 := S14 _ hSw
            have yS15 := S15 _ hSw
            go_simp
            first | (with_reducible rfl) | done | assumption | skip
          simp only [Act.put, List.getElem_toArray, List.getElem_cons_succ, List.getElem_cons_zero, List.setIfInBounds_toArray, List.set_cons_zero, List.set_cons_succ]
          clear V0 V1 V2 V3 V4 V5 S0 S1 S2 S3 S4 S5 S6 S7 S8 S9 S10 S11 S12 S13 S14 S15
          refine wpAnyH_ready (rs := [5, 9]) (by kernel_rfl) (by simp) ?_
          refine AllReadyH.cons rfl (fun K hK => ?_) (AllReadyH.cons rfl (fun K hK => ?_) AllReadyH.nil)
          · go_simp
            refine (KA _ (by assumption)).mono ?_
            rintro e w3 ⟨lb2, cb2, rfl, sl4, fr4, b3⟩
            have hNext : Below wr.heap.size wr w3 := Below.trans bw0 (b3.mono (Below.size bw0))
            refine hK.out _ _ hNext (fun _ => ?_)
            clear hK K
            try simp only [Act.put, List.getElem_toArray, List.getElem_cons_succ, List.getElem_cons_zero, List.setIfInBounds_toArray, List.set_cons_zero, List.set_cons_succ]
            refine wpAnyH_take (i := 6) (v := ?_) rfl (by kernel_rfl) (by kernel_rfl) (by kernel_rfl) (fun _ _ _ h => h) (Or.inl ⟨by kernel_rfl, ?_⟩) (by assumption) ?_
            rotate_left
            · intro w' hSw
              go_simp
              first | (with_reducible rfl) | done | assumption | skip
            simp only [Act.put, List.getElem_toArray, List.getElem_cons_succ, List.getElem_cons_zero, List.setIfInBounds_toArray, List.set_cons_zero, List.set_cons_succ]
            refine wpAnyH_take (i := 7) (v := ?_) rfl (by kernel_rfl) (by kernel_rfl) (by kernel_rfl) (fun _ _ _ h => h) (Or.inl ⟨by kernel_rfl, ?_⟩) (by assumption) ?_
            rotate_left
            · intro w' hSw
              go_simp
              first | (with_reducible rfl) | done | assumption | skip
            simp only [Act.put, List.getElem_toArray, List.getElem_cons_succ, List.getElem_cons_zero, List.setIfInBounds_toArray, List.set_cons_zero, List.set_cons_succ]
            refine wpAnyH_take (i := 8) (v := ?_) rfl (by kernel_rfl) (by kernel_rfl) (by kernel_rfl) (fun _ _ _ h => h) (Or.inl ⟨by kernel_rfl, ?_⟩) (by assumption) ?_
            rotate_left
            · intro w' hSw
              go_simp
              first | (with_reducible rfl) | done | assumption | skip
            simp only [Act.put, List.getElem_toArray, List.getElem_cons_succ, List.getElem_cons_zero, List.setIfInBounds_toArray, List.set_cons_zero, List.set_cons_succ]
            refine wpAnyH_ready (rs := [9]) (by kernel_rfl) (by simp) ?_
            refine AllReadyH.cons rfl (fun K hK => ?_) AllReadyH.nil
            go_simp
            refine hK.out _ _ (bel_al hNext _) (fun _ => ?_)
            clear hK K
            try simp only [Act.put, List.getElem_toArray, List.getElem_cons_succ, List.getElem_cons_zero, List.setIfInBounds_toArray, List.set_cons_zero, List.set_cons_succ]
            refine wpAnyH_ready (rs := [10]) (by kernel_rfl) (by simp) ?_
            refine AllReadyH.cons rfl (fun K hK => ?_) AllReadyH.nil
            go_simp
            refine hK.out _ _ (bel_al hNext _) (fun _ => ?_)
            clear hK K
            try simp only [Act.put, List.getElem_toArray, List.getElem_cons_succ, List.getElem_cons_zero, List.setIfInBounds_toArray, List.set_cons_zero, List.set_cons_succ]
            refine wpAnyH_take (i := 11) (v := ?_) rfl (by kernel_rfl) (by kernel_rfl) (by kernel_rfl) (fun _ _ _ h => h) (Or.inl ⟨by kernel_rfl, ?_⟩) (by assumption) ?_
            rotate_left
            · intro w' hSw
              go_simp
              first | (with_reducible rfl) | done | assumption | skip
            simp only [Act.put, List.getElem_toArray, List.getElem_cons_succ, List.getElem_cons_zero, List.setIfInBounds_toArray, List.set_cons_zero, List.set_cons_succ]
            refine wpAnyH_done (by kernel_rfl) ?_ _
            go_wp2
            go_meet
            case rel => exact ⟨rfl, NextIn.late sl4 (fun a ha => fr4 a ha) hNext⟩
          · go_simp
            have bw1 := bel_al bw0 (.cells #[.int .i64 0, .int .i64 0, .int .i64 0, .int .i64 0, .int .u64 0, .slice none 0 0] 26)
            refine hK.out _ _ bw1 (fun _ => ?_)
            clear hK K
            try simp only [Act.put, List.getElem_toArray, List.getElem_cons_succ, List.getElem_cons_zero, List.setIfInBounds_toArray, List.set_cons_zero, List.set_cons_succ]
            refine wpAnyH_ready (rs := [5]) (by kernel_rfl) (by simp) ?_
            refine AllReadyH.cons rfl (fun K hK => ?_) AllReadyH.nil
            go_simp
            refine (KA _ (by assumption)).mono ?_
            rintro e w3 ⟨lb2, cb2, rfl, sl4, fr4, b3⟩
            have hNext : Below wr.heap.size wr w3 := Below.trans bw1 (b3.mono (Below.size bw1))
            have ow := own2 b3
            have oc0 := (ow.cell 0).trans rfl
            have of0 := ow.frozen 0
            have oc1 := (ow.cell 1).trans rfl
            have of1 := ow.frozen 1
            have oc2 := (ow.cell 2).trans rfl
            have of2 := ow.frozen 2
            have oc3 := (ow.cell 3).trans rfl
            have of3 := ow.frozen 3
            have oc4 := (ow.cell 4).trans rfl
            have of4 := ow.frozen 4
            have oc5 := (ow.cell 5).trans rfl
            have of5 := ow.frozen 5
            have ol := ow.lt
            refine hK.out _ _ hNext (fun _ => ?_)
            clear hK K
            try simp only [Act.put, List.getElem_toArray, List.getElem_cons_succ, List.getElem_cons_zero, List.setIfInBounds_toArray, List.set_cons_zero, List.set_cons_succ]
            refine wpAnyH_take (i := 6) (v := ?_) rfl (by kernel_rfl) (by kernel_rfl) (by kernel_rfl) (fun _ _ _ h => h) (Or.inl ⟨by kernel_rfl, ?_⟩) (by assumption) ?_
            rotate_left
            · intro w' hSw
              go_simp
              first | (with_reducible rfl) | done | assumption | skip
            simp only [Act.put, List.getElem_toArray, List.getElem_cons_succ, List.getElem_cons_zero, List.setIfInBounds_toArray, List.set_cons_zero, List.set_cons_succ]
            refine wpAnyH_take (i := 7) (v := ?_) rfl (by kernel_rfl) (by kernel_rfl) (by kernel_rfl) (fun _ _ _ h => h) (Or.inl ⟨by kernel_rfl, ?_⟩) (by assumption) ?_
            rotate_left
            · intro w' hSw
              go_simp
              first | (with_reducible rfl) | done | assumption | skip
            simp only [Act.put, List.getElem_toArray, List.getElem_cons_succ, List.getElem_cons_zero, List.setIfInBounds_toArray, List.set_cons_zero, List.set_cons_succ]
            refine wpAnyH_take (i := 8) (v := ?_) rfl (by kernel_rfl) (by kernel_rfl) (by kernel_rfl) (fun _ _ _ h => h) (Or.inl ⟨by kernel_rfl, ?_⟩) (by assumption) ?_
            rotate_left
            · intro w' hSw
              go_simp
              first | (with_reducible rfl) | done | assumption | skip
            simp only [Act.put, List.getElem_toArray, List.getElem_cons_succ, List.getElem_cons_zero, List.setIfInBounds_toArray, List.set_cons_zero, List.set_cons_succ]
            refine wpAnyH_ready (rs := [10]) (by kernel_rfl) (by simp) ?_
            refine AllReadyH.cons rfl (fun K hK => ?_) AllReadyH.nil
            go_simp
            refine hK.out _ _ (bel_st (bel_st (bel_st (bel_st (bel_st (bel_st hNext (Nat.le_refl _) _) (Nat.le_refl _) _) (Nat.le_refl _) _) (Nat.le_refl _) _) (Nat.le_refl _) _) (Nat.le_refl _) _) (fun _ => ?_)
            clear hK K
            try simp only [Act.put, List.getElem_toArray, List.getElem_cons_succ, List.getElem_cons_zero, List.setIfInBounds_toArray, List.set_cons_zero, List.set_cons_succ]
            refine wpAnyH_take (i := 11) (v := ?_) rfl (by kernel_rfl) (by kernel_rfl) (by kernel_rfl) (fun _ _ _ h => h) (Or.inl ⟨by kernel_rfl, ?_⟩) (by assumption) ?_
            rotate_left
            · intro w' hSw
              go_simp
              first | (with_reducible rfl) | done | assumption | skip
            simp only [Act.put, List.getElem_toArray, List.getElem_cons_succ, List.getElem_cons_zero, List.setIfInBounds_toArray, List.set_cons_zero, List.set_cons_succ]
            refine wpAnyH_done (by kernel_rfl) ?_ _
            go_wp2
            go_meet
            case rel => exact ⟨rfl, NextIn.early sl4 (fun a ha => by have := fr4 a ha; simpa using this) hNext ow⟩
        case rest =>
          obtain ⟨rfl, nb, lb2, cb2, rfl, hnb, kn, sl4, fr4, bx⟩ := hcut
          generalize wc = wx at *
          have F := HF.out
          have B5 := F.below.trans (bx.mono F.below.size)
          have kv5 := F.kv.below bx F.kv.lt
          have kz5 := F.kz.below bx F.kz.lt
          have own5 := owns_keep F.own bx
          have hsok := HK.out
          have ok5 : (⟨c, wi, ep, hh, hst, lb2, cb2, sl⟩ : Vw).Ok wx := ⟨F.ok.ic, F.ok.iwi, F.ok.iep, hsok.ihh, hsok.ihst, sl4, hsok.few, hsok.in_⟩
          have zkz := F.kz.lt
          have aw5 : sl ≠ [] → ∀ a, lb2 = some a → a.block ≠ w.heap.size ∧ a.block ≠ w.heap.size + 1 ∧ av.ownBlock ≠ some a.block := fun hz a ha => by
            have h1 := fr4 a ha
            refine ⟨by omega, by omega, fun q => ?_⟩
            have := (F.own.lt a.block q).2
            omega
          have own5 : wx.ownsRow (w.heap.size + 2) 45 1 av (folE v0.norm (ls.take i)).length (flatE (folE v0.norm (ls.take i))) := by rw [HL.out]; exact own5
          obtain ⟨g, ec, w9, hr, ho9, hg9, hgb⟩ := app_err wx (w.heap.size + 2) av _ own5 0 (by rw [HL.out]; omega) (by have := kz5.lt; omega) i HL.out
          obtain ⟨ok9, aw9, kv9, kz9, own9, B9⟩ := fol_app (vn := ⟨c, wi, ep, hh, hst, lb2, cb2, sl⟩) hlt ok5 aw5 kv5 kz5 own5 B5 (Nat.le_refl _) HE2.out ho9 hg9 hgb
          have bE : Below wx.heap.size wx (wx.alloc (.cells #[.int .i64 0] 45)) := (Below.refl _ _).alloc (Nat.le_refl _) _
          have kn9 := (kn.below bE kn.lt).grown hg9 (fun q => by have := (F.own.lt nb q).2; omega)
          have hne : nb ≠ w.heap.size := by omega
          clear ho9 hg9 hgb own5 ok5 kv5 kz5 B5 aw5 HE2 HL F HF KA bx bE HK hsok sl4 fr4 kn V0 V1 V2 V3 V4 V5 S0 S1 S2 S3 S4 S5 S6 S7 S8 S9 S10 S11 S12 S13 S14 S15
          have ok6 := (Vw.Ok.setCell (Vw.Ok.setCell (Vw.Ok.setCell (Vw.Ok.setCell (Vw.Ok.setCell (Vw.Ok.setCell ok9 (p := ⟨w.heap.size, 0, none⟩) (fun hz a ha => by have := (aw9 hz a ha).1; simp only; omega) (.int .i64 c)) (p := ⟨w.heap.size, 1, none⟩) (fun hz a ha => by have := (aw9 hz a ha).1; simp only; omega) (.int .i64 wi)) (p := ⟨w.heap.size, 2, none⟩) (fun hz a ha => by have := (aw9 hz a ha).1; simp only; omega) (.int .i64 ep)) (p := ⟨w.heap.size, 3, none⟩) (fun hz a ha => by have := (aw9 hz a ha).1; simp only; omega) (.int .i64 hh)) (p := ⟨w.heap.size, 4, none⟩) (fun hz a ha => by have := (aw9 hz a ha).1; simp only; omega) (.int .u64 hst)) (p := ⟨w.heap.size, 5, none⟩) (fun hz a ha => by have := (aw9 hz a ha).1; simp only; omega) (.slice lb2 sl.length cb2))
          have kv6 := ((((((kv9.set 0 (.int .i64 c)).set 1 (.int .i64 wi)).set 2 (.int .i64 ep)).set 3 (.int .i64 hh)).set 4 (.int .u64 hst)).set 5 (.slice lb2 sl.length cb2))
          have kz6 := ((((((kz9.setOther ⟨w.heap.size, 0, none⟩ (by simp) (.int .i64 c)).setOther ⟨w.heap.size, 1, none⟩ (by simp) (.int .i64 wi)).setOther ⟨w.heap.size, 2, none⟩ (by simp) (.int .i64 ep)).setOther ⟨w.heap.size, 3, none⟩ (by simp) (.int .i64 hh)).setOther ⟨w.heap.size, 4, none⟩ (by simp) (.int .u64 hst)).setOther ⟨w.heap.size, 5, none⟩ (by simp) (.slice lb2 sl.length cb2))
          have B6 := ((((((B9.setCell (p := ⟨w.heap.size, 0, none⟩) (Nat.le_refl _) (.int .i64 c)).setCell (p := ⟨w.heap.size, 1, none⟩) (Nat.le_refl _) (.int .i64 wi)).setCell (p := ⟨w.heap.size, 2, none⟩) (Nat.le_refl _) (.int .i64 ep)).setCell (p := ⟨w.heap.size, 3, none⟩) (Nat.le_refl _) (.int .i64 hh)).setCell (p := ⟨w.heap.size, 4, none⟩) (Nat.le_refl _) (.int .u64 hst)).setCell (p := ⟨w.heap.size, 5, none⟩) (Nat.le_refl _) (.slice lb2 sl.length cb2))
          have own6 := (owns_setCell (owns_setCell (owns_setCell (owns_setCell (owns_setCell (owns_setCell own9 (p := ⟨w.heap.size, 0, none⟩) (fun q hq => by have := (own9.lt q hq).1; simp only; omega) (.int .i64 c)) (p := ⟨w.heap.size, 1, none⟩) (fun q hq => by have := (own9.lt q hq).1; simp only; omega) (.int .i64 wi)) (p := ⟨w.heap.size, 2, none⟩) (fun q hq => by have := (own9.lt q hq).1; simp only; omega) (.int .i64 ep)) (p := ⟨w.heap.size, 3, none⟩) (fun q hq => by have := (own9.lt q hq).1; simp only; omega) (.int .i64 hh)) (p := ⟨w.heap.size, 4, none⟩) (fun q hq => by have := (own9.lt q hq).1; simp only; omega) (.int .u64 hst)) (p := ⟨w.heap.size, 5, none⟩) (fun q hq => by have := (own9.lt q hq).1; simp only; omega) (.slice lb2 sl.length cb2))
          have F9 : FolAt w w.heap.size v0 ls (i + 1) ⟨c, wi, ep, hh, hst, lb2, cb2, sl⟩ (.slice (some ⟨g, 0, none⟩) (i + 1) ec) ((((((w9.setCell ⟨w.heap.size, 0, none⟩ (.int .i64 c)).setCell ⟨w.heap.size, 1, none⟩ (.int .i64 wi)).setCell ⟨w.heap.size, 2, none⟩ (.int .i64 ep)).setCell ⟨w.heap.size, 3, none⟩ (.int .i64 hh)).setCell ⟨w.heap.size, 4, none⟩ (.int .u64 hst)).setCell ⟨w.heap.size, 5, none⟩ (.slice lb2 sl.length cb2)) := ⟨HNV.out lb2 cb2, ok6, aw9, kv6, kz6, own6, B6, Nat.le_refl _⟩
          have n0 := (kn9.cell 0).trans rfl
          have n1 := (kn9.cell 1).trans rfl
          have n2 := (kn9.cell 2).trans rfl
          have n3 := (kn9.cell 3).trans rfl
          have n4 := (kn9.cell 4).trans rfl
          have n5 := (kn9.cell 5).trans rfl
          have g0 := (kv9.cell 0).trans rfl
          have f0 := kv9.frozen 0
          have g1 := (kv9.cell 1).trans rfl
          have f1 := kv9.frozen 1
          have g2 := (kv9.cell 2).trans rfl
          have f2 := kv9.frozen 2
          have g3 := (kv9.cell 3).trans rfl
          have f3 := kv9.frozen 3
          have g4 := (kv9.cell 4).trans rfl
          have f4 := kv9.frozen 4
          have g5 := (kv9.cell 5).trans rfl
          have f5 := kv9.frozen 5
          have zn9 := kn9.lt
          have zv9 := kv9.lt
          clear ok6 kv6 kz6 B6 own6 ok9 aw9 kv9 kz9 own9 B9 kn9
          go_wp2_with (at_builtin; refine wpList_append_run rfl _ _ 41 rfl _ _ _ w9 rfl rfl hr ?_)
          exact ⟨⟨i + 1, _, by omega, by go_num, F9⟩, by simp [intOf]; omega⟩
    · have hge : ¬ (i : Int) < (ls.length : Int) := by omega
      have hil : i = ls.length := by omega
      have HT : Hid (ls.take i = ls) := List.take_of_length_le (by omega)
      obtain ⟨ea, ec, rfl, hIA⟩ := errs_at F.own (err_len (by omega))
      subst hil
      have x0 := (F.kv.cell 0).trans rfl
      have x1 := (F.kv.cell 1).trans rfl
      have x2 := (F.kv.cell 2).trans rfl
      have x3 := (F.kv.cell 3).trans rfl
      have x4 := (F.kv.cell 4).trans rfl
      have x5 := (F.kv.cell 5).trans rfl
      have y0 := (F.kz.cell 0).trans rfl
      have q0 := F.kz.frozen 0
      have y1 := (F.kz.cell 1).trans rfl
      have q1 := F.kz.frozen 1
      have y2 := (F.kz.cell 2).trans rfl
      have q2 := F.kz.frozen 2
      have y3 := (F.kz.cell 3).trans rfl
      have q3 := F.kz.frozen 3
      have y4 := (F.kz.cell 4).trans rfl
      have q4 := F.kz.frozen 4
      have y5 := (F.kz.cell 5).trans rfl
      have q5 := F.kz.frozen 5
      have zv := F.kv.lt
      have zz := F.kz.lt
      go_wp2
      refine bodyPost_ret (v := .tuple #[.agg #[.int .i64 c, .int .i64 wi, .int .i64 ep, .int .i64 h, .int .u64 st, .slice a l.length cap], .slice ea ls.length ec]) (by simp [results, Tryz.results8, go_sem, y0, y1, y2, y3, y4, y5]) rfl ?_
      refine ⟨⟨c, wi, ep, h, st, a, cap, l⟩, ea, ec, rfl, by rw [F.nv, HT.out], ?_, ?_, ?_⟩
      · iterate 6 refine Vw.Ok.setCell ?_ (fun hz a ha => by have := (F.away hz a ha).2.1; simp only; omega) _
        exact F.ok
      · rw [HT.out] at hIA
        iterate 6 refine IntsAt.setCell ?_ (fun a ha => by have := (F.own.lt a.block (by rw [ha]; rfl)).1; simp only; omega) _
        exact hIA
      · iterate 6 refine Below.setCell ?_ (by show w.heap.size ≤ w.heap.size + 1; omega) _
        exact F.below
end Go.Proofs.YtblnlfcfjbfhiaaGreat
