import Derived.Test.YtackcbpabjhmpaaGreatM03
namespace Go.Proofs.YtackcbpabjhmpaaGreat
open Go.RowKit
set_option linter.unusedVariables false
set_option linter.unusedSimpArgs false
def numR : List UInt8 → Rs Int
 | [] => .error 1
 | c :: r => if 5 < c.toNat then .error 2 else if r.length < c.toNat then .error 1 else if (r.take c.toNat).head? = some 0 then .error 2 else .ok (val (r.take c.toNat), r.drop c.toNat)
theorem numP_R (m : Int) (s : List UInt8) : numP m s = match numR s with | .error e => .error e | .ok (n, r) => if m < n then .error 3 else .ok (n, r) := by
 cases s with
 | nil => rfl
 | cons c r =>
  rw [numP, numR]
  by_cases h1 : 5 < c.toNat
  ·rw [if_pos h1, if_pos h1]
  ·rw [if_neg h1, if_neg h1]
   by_cases h2 : r.length < c.toNat
   ·rw [if_pos h2, if_pos h2]
   ·rw [if_neg h2, if_neg h2]
    by_cases h3 : (r.take c.toNat).head? = some 0
    ·rw [if_pos h3, if_pos h3]
    ·rw [if_neg h3, if_neg h3]
def GotE (b : Nat) {α : Type} (x : Rs α) (v : α → Value) (w : World) (e : Ending) (w' : World) : Prop :=
 But (fun k => k = b) w w' ∧ ((∃ er, x = .error er ∧ e = refusedE er) ∨ ∃ n r, x = .ok (n, r) ∧ e = .returned (v n) ∧ RdAt w' b r)
set_option maxHeartbeats 800000 in
theorem cut_short (b : Nat) (rest : List UInt8) (n : Nat) (w : World) (k : RdAt w b rest) (hn : rest.length < n) (hn2 : n ≤ 1099511627776) :
  Calls Tryz.prog 222 #[.pointer (some ⟨b, 0, none⟩), .int .i64 n] w fun e w' => e = refusedE 1 ∧ w = w' := by
 have k' : Blk w b #[.bool true, .slice none 0 0, .string ⟨rest.toArray⟩] 185 := k
 have c2 := (k'.cell 2).trans rfl
 have zb := k'.lt
 have sz := str_size' rest
 have hn' : (rest.length : Int) < (n : Int) := by omega
 generalize rest.length = L at *
 go_enter Tryz.func222, Tryz.ntmps222
 go_wp2_with fail
 refine (refuse_any 1 _).mono ?_
 rintro e w1 ⟨rfl, rfl⟩
 go_wp2
 exact ⟨rfl, rfl, rfl⟩
set_option maxHeartbeats 1600000 in
theorem readNumber_all (b : Nat) (s : List UInt8) (w : World) (k : RdAt w b s) (hL : s.length ≤ 1099511627000) :
  Calls Tryz.prog 215 #[.pointer (some ⟨b, 0, none⟩)] w fun e w' => GotE b (numR s) (fun n => .int .i64 n) w e w' := by
 cases s with
 | nil =>
  have K1 := cut_short b [] 1 w k (by simp) (by omega)
  go_enter Tryz.func215, Tryz.ntmps215
  go_wp2_with fail
  refine K1.mono ?_
  rintro e w1 ⟨rfl, rfl⟩
  unfold refusedE
  go_wp2
  exact ⟨rfl, But.refl _ _, .inl ⟨1, rfl, rfl⟩⟩
 | cons c r =>
  have K1 := cut_any b (c :: r) 1 w k (by simp) (by omega)
  simp only [List.take_succ_cons, List.take_zero, List.drop_succ_cons, List.drop_zero] at K1
  have hrl : r.length ≤ 1099511627000 := by simp only [List.length_cons] at hL; omega
  have hix : ∀ h : 0 < (⟨#[c]⟩ : ByteArray).size, ((⟨#[c]⟩ : ByteArray)[0]'h).toNat = c.toNat := fun h => rfl
  have hc256 : c.toNat < 256 := c.toNat_lt
  have hwz : wrap64 (c.toNat : Int) = (c.toNat : Int) := by unfold wrap64; omega
  have HR : Hid (numR (c :: r) = if 5 < c.toNat then .error 2 else if r.length < c.toNat then .error 1 else if (r.take c.toNat).head? = some 0 then .error 2 else .ok (val (r.take c.toNat), r.drop c.toNat)) := rfl
  have KC := fun w' (k' : RdAt w' b r) (h : c.toNat ≤ r.length) => cut_any b r c.toNat w' k' h (by omega)
  have KS := fun w' (k' : RdAt w' b r) (h : r.length < c.toNat) => cut_short b r c.toNat w' k' h (by omega)
  have hl5 : (r.take c.toNat).length ≤ c.toNat := by rw [List.length_take]; omega
  have hll : c.toNat ≤ r.length → (r.take c.toNat).length = c.toNat := fun h => by rw [List.length_take]; omega
  by_cases h5 : 5 < c.toNat
  ·have h5' : (5 : Int) < (c.toNat : Int) := by omega
   have HE : Hid (numR (c :: r) = .error 2) := by show _ = _; rw [HR.out, if_pos h5]
   generalize c.toNat = z at *
   clear HR h5 KC KS hl5 hll
   go_enter Tryz.func215, Tryz.ntmps215
   go_wp2_with fail
   refine K1.mono ?_
   rintro e w1 ⟨rfl, k1, B1⟩
   go_wp2_with fail
   refine (refuse_any 2 _).mono ?_
   rintro e w2 ⟨rfl, rfl⟩
   go_wp2
   exact ⟨rfl, B1, .inl ⟨2, HE.out, rfl⟩⟩
  ·have h5' : ¬ (5 : Int) < (c.toNat : Int) := by omega
   have hR2 := HR.out
   rw [if_neg h5] at hR2
   by_cases hs : r.length < c.toNat
   ·have HE : Hid (numR (c :: r) = .error 1) := by show _ = _; rw [hR2, if_pos hs]
    have KS2 := fun w' k' => KS w' k' hs
    generalize c.toNat = z at *
    clear HR h5 KC KS hl5 hll hR2 hs
    go_enter Tryz.func215, Tryz.ntmps215
    go_wp2_with fail
    refine K1.mono ?_
    rintro e w1 ⟨rfl, k1, B1⟩
    go_wp2_with fail
    refine (KS2 w1 k1).mono ?_
    rintro e w2 ⟨rfl, rfl⟩
    unfold refusedE
    go_wp2
    exact ⟨rfl, B1, .inl ⟨1, HE.out, rfl⟩⟩
   ·rw [if_neg hs] at hR2
    have KC2 := fun w' k' => KC w' k' (by omega)
    have hlen := hll (by omega)
    generalize r.take c.toNat = t at *
    generalize r.drop c.toNat = q at *
    have K3 := fun w' => valueOf_any t w' (by omega)
    have hval := val_lt t
    rw [hlen] at hval
    have hp : 256 ^ c.toNat ≤ 256 ^ 5 := Nat.pow_le_pow_right (by omega) (by omega)
    have hv5 : val t < 1099511627776 := by omega
    cases t with
    | nil =>
     have HE : Hid (numR (c :: r) = .ok (val [], q)) := by show _ = _; rw [hR2, if_neg (by simp)]
     have hz0 : c.toNat = 0 := by simpa using hlen.symm
     have hw2 : wrap64 ((val ([] : List UInt8) : Nat) : Int) = ((val ([] : List UInt8) : Nat) : Int) := by unfold wrap64; omega
     have hw1 : IntKind.i64.wrap ((val ([] : List UInt8) : Nat) : Int) = ((val ([] : List UInt8) : Nat) : Int) := by simp [IntKind.wrap, IntKind.min, IntKind.max, IntKind.signed, IntKind.bits]; omega
     generalize val ([] : List UInt8) = vv at *
     rw [hz0] at KC2 hix hwz
     clear HR h5 KC KS hl5 hll hR2 hs hlen hval hp h5' hc256 hz0
     go_enter Tryz.func215, Tryz.ntmps215
     go_wp2_with fail
     refine K1.mono ?_
     rintro e w1 ⟨rfl, k1, B1⟩
     go_wp2_with fail
     refine (KC2 w1 k1).mono ?_
     rintro e w2 ⟨rfl, k2, B2⟩
     have B3 := B1.trans B2
     clear K1 KC2 k1 B1 B2
     go_wp2_with fail
     refine (K3 w2).mono ?_
     rintro e w3 ⟨rfl, rfl⟩
     go_wp2
     go_ret
     exact ⟨B3, .inr ⟨_, q, HE.out, rfl, k2⟩⟩
    | cons d u =>
     have hz' : (0 : Int) < (c.toNat : Int) := by simp only [List.length_cons] at hlen; omega
     have hci : ∀ h : 0 < (⟨(d :: u).toArray⟩ : ByteArray).size, (⟨(d :: u).toArray⟩ : ByteArray)[0]'h = d := fun h => rfl
     have hsc : (⟨(d :: u).toArray⟩ : ByteArray).size = u.length + 1 := by simp [ByteArray.size]
     by_cases hd : d = 0
     ·subst hd
      have HE : Hid (numR (c :: r) = .error 2) := by show _ = _; rw [hR2, if_pos (by simp)]
      generalize c.toNat = z at *
      clear HR h5 KC KS hl5 hll hR2 hs hlen hval hp K3 hv5
      go_enter Tryz.func215, Tryz.ntmps215
      go_wp2_with fail
      refine K1.mono ?_
      rintro e w1 ⟨rfl, k1, B1⟩
      go_wp2_with fail
      refine (KC2 w1 k1).mono ?_
      rintro e w2 ⟨rfl, k2, B2⟩
      have B3 := B1.trans B2
      clear K1 KC2 k1 B1 B2
      go_wp2_with fail
      refine (refuse_any 2 _).mono ?_
      rintro e w3 ⟨rfl, rfl⟩
      go_wp2
      exact ⟨rfl, B3, .inl ⟨2, HE.out, rfl⟩⟩
     ·have HE : Hid (numR (c :: r) = .ok (val (d :: u), q)) := by show _ = _; rw [hR2, if_neg (by simpa using hd)]
      have hcn : (d.toNat : Int) ≠ 0 := fun e => hd (by
       have : d.toNat = 0 := by omega
       exact UInt8.toNat_inj.1 (by simpa using this))
      have hcb : ((d.toNat : Int) == 0) = false := by simpa using hcn
      have hw2 : wrap64 ((val (d :: u) : Nat) : Int) = ((val (d :: u) : Nat) : Int) := by unfold wrap64; omega
      have hw1 : IntKind.i64.wrap ((val (d :: u) : Nat) : Int) = ((val (d :: u) : Nat) : Int) := by simp [IntKind.wrap, IntKind.min, IntKind.max, IntKind.signed, IntKind.bits]; omega
      generalize hvv : val (d :: u) = vv at *
      generalize c.toNat = z at *
      clear HR h5 KC KS hl5 hll hR2 hs hlen hval hp hcn hd hvv
      go_enter Tryz.func215, Tryz.ntmps215
      go_wp2_with fail
      refine K1.mono ?_
      rintro e w1 ⟨rfl, k1, B1⟩
      go_wp2_with fail
      refine (KC2 w1 k1).mono ?_
      rintro e w2 ⟨rfl, k2, B2⟩
      have B3 := B1.trans B2
      clear K1 KC2 k1 B1 B2
      go_wp2_with fail
      refine (K3 w2).mono ?_
      rintro e w3 ⟨rfl, rfl⟩
      go_wp2
      go_ret
      exact ⟨B3, .inr ⟨_, q, HE.out, rfl, k2⟩⟩
def NumE (b xb o : Nat) (cs : Array Value) (t : TypeId) (x : Rs Int) (w : World) (e : Ending) (w' : World) : Prop :=
 But (fun k => k = b ∨ k = xb) w w' ∧ ((∃ er, x = .error er ∧ e = refusedE er) ∨ ∃ n r, x = .ok (n, r) ∧ e = .returned (.tuple #[]) ∧ RdAt w' b r ∧ Blk w' xb (cs.setIfInBounds o (.int .i64 n)) t)
set_option maxHeartbeats 1600000 in
theorem bounded_n (b xb o : Nat) (cs : Array Value) (t : TypeId) (most : Int) (s : List UInt8) (w : World) (hm : 0 ≤ most ∧ most ≤ 1099511627775) (hL : s.length ≤ 1099511627000) (k : RdAt w b s) (kx : Blk w xb cs t) (hj : o < cs.size) (hne : xb ≠ b) :
  Calls Tryz.prog 119 #[.pointer (some ⟨b, 0, none⟩), .pointer (some ⟨xb, o, none⟩), .int .i64 most] w fun e w' => NumE b xb o cs t (numP most s) w e w' := by
 have k' : Blk w b #[.bool true, .slice none 0 0, .string ⟨s.toArray⟩] 185 := k
 have c0 := (k'.cell 0).trans rfl
 have zb := k'.lt
 have KN := readNumber_all b s w k hL
 have HP := show Hid (_ = _) from numP_R most s
 go_enter Tryz.func119, Tryz.ntmps119
 go_wp2_with fail
 refine KN.mono ?_
 rintro e w1 ⟨B1, ⟨er, h1, rfl⟩ | ⟨n, r, h1, rfl, k1⟩⟩
 ·have HE : Hid (numP most s = .error er) := by show _ = _; rw [HP.out, h1]
  clear HP h1 KN
  unfold refusedE
  go_wp2
  exact ⟨rfl, B1.mono (fun _ h => .inl h), .inl ⟨er, HE.out, rfl⟩⟩
 ·have kx1 := B1.blk kx hne
  have xc : w1.cell? ⟨xb, o, none⟩ = some cs[o] := by rw [kx1.cell]; simp [hj]
  have xf := kx1.frozen o
  have zx := kx1.lt
  have kx2 := kx1.set o (.int .i64 n)
  have k2 : Blk (w1.setCell ⟨xb, o, none⟩ (.int .i64 n)) b #[.bool true, .slice none 0 0, .string ⟨r.toArray⟩] 185 := Blk.setOther (show Blk w1 b #[.bool true, .slice none 0 0, .string ⟨r.toArray⟩] 185 from k1) ⟨xb, o, none⟩ (fun e => hne e.symm) (.int .i64 n)
  have B2 : But (fun k => k = b ∨ k = xb) w (w1.setCell ⟨xb, o, none⟩ (.int .i64 n)) := (B1.mono (fun _ h => .inl h)).trans (But.set w1 (p := ⟨xb, o, none⟩) (.inr rfl) _)
  have y0 := (k2.cell 0).trans rfl
  have y1 : (w1.setCell ⟨xb, o, none⟩ (.int .i64 n)).cell? ⟨xb, o, none⟩ = some (.int .i64 n) := by rw [kx2.cell]; exact set_get _ _ _ hj
  have z2 := k2.lt
  have z3 := kx2.lt
  have hn0 : 0 ≤ n := by
   cases s with
   | nil => cases h1
   | cons c q =>
    rw [numR] at h1
    split at h1
    ·cases h1
    ·split at h1
     ·cases h1
     ·split at h1
      ·cases h1
      ·injection h1 with h1
       injection h1 with h1 h3
       omega
  rw [h1] at HP
  clear c0 zb KN k k' kx B1 k1 h1
  go_upto_region 2 with fail
  generalize w1.setCell ⟨xb, o, none⟩ (.int .i64 n) = w2 at *
  clear xc xf zx kx1
  have hn1 : ¬ n < 0 := by omega
  by_cases hnm : most < n
  ·have HE : Hid (numP most s = .error 3) := by show _ = _; rw [HP.out]; exact if_pos hnm
   clear HP
   go_wp2_with fail
   refine (refuse_any 3 _).mono ?_
   rintro e w3 ⟨rfl, rfl⟩
   go_wp2
   exact ⟨rfl, B2, .inl ⟨3, HE.out, rfl⟩⟩
  ·have HE : Hid (numP most s = .ok (n, r)) := by show _ = _; rw [HP.out]; exact if_neg hnm
   clear HP
   go_wp2
   go_end0
   exact ⟨B2, .inr ⟨n, r, HE.out, rfl, k2, kx2⟩⟩
theorem NumE.rd {b xb o : Nat} {cs : Array Value} {t : TypeId} {m : Int} {s : List UInt8} {w w' : World} {e : Ending} (hm : m ≤ 1099511627775) (h : NumE b xb o cs t (numP m s) w e w') : RdE b xb o cs t [.num m] s w e w' := by
 obtain ⟨hb, h⟩ := h
 refine ⟨hb, ?_⟩
 rcases h with ⟨er, h1, h2⟩ | ⟨n, r, h1, h2, h3, h4⟩
 ·exact .inl ⟨er, by rw [readAll_one, Sc.read, h1], h2⟩
 ·refine .inr ⟨[.i n], r, by rw [readAll_one, Sc.read, h1]; rfl, h2, h3, h4, fun f hf => ?_⟩
  obtain ⟨_, h5, h6, h7⟩ := numP_back h1
  simp at hf
  subst hf
  show _ ∧ _
  omega
theorem ZeroAt.lt {cs : Array Value} {o : Nat} {c : Sc} {l : List Sc} (h : ZeroAt cs o (c :: l)) : o < cs.size := (Array.getElem?_eq_some_iff.1 (h 0 c rfl)).1
theorem bounded_rd (b xb o : Nat) (cs : Array Value) (t : TypeId) (most : Int) (s : List UInt8) (w : World) (hm : 0 ≤ most ∧ most ≤ 1099511627775) (hL : s.length ≤ 1099511627000) (k : RdAt w b s) (kx : Blk w xb cs t) (hj : o < cs.size) (hne : xb ≠ b) :
  Calls Tryz.prog 119 #[.pointer (some ⟨b, 0, none⟩), .pointer (some ⟨xb, o, none⟩), .int .i64 most] w fun e w' => RdE b xb o cs t [.num most] s w e w' :=
 (bounded_n b xb o cs t most s w hm hL k kx hj hne).mono fun e w' h => h.rd hm.2
set_option maxHeartbeats 800000 in
theorem number_rd (b xb o : Nat) (cs : Array Value) (t : TypeId) (s : List UInt8) (w : World) (hL : s.length ≤ 1099511627000) (k : RdAt w b s) (kx : Blk w xb cs t) (hj : o < cs.size) (hne : xb ≠ b) :
  Calls Tryz.prog 41 #[.pointer (some ⟨b, 0, none⟩), .pointer (some ⟨xb, o, none⟩)] w fun e w' => RdE b xb o cs t [.num 1099511627775] s w e w' := by
 have K := bounded_rd b xb o cs t 1099511627775 s w (by omega) hL k kx hj hne
 go_enter Tryz.func41, Tryz.ntmps41
 go_wp2_with fail
 refine K.mono ?_
 rintro e w1 ⟨B1, ⟨er, h1, rfl⟩ | ⟨fs, r, h1, rfl, h2⟩⟩
 ·have HE : Hid (RdE b xb o cs t [.num 1099511627775] s w (refusedE er) w1) := ⟨B1, .inl ⟨er, h1, rfl⟩⟩
  clear h1 K
  unfold refusedE at *
  go_wp2
  exact ⟨rfl, HE.out⟩
 ·have HE : Hid (RdE b xb o cs t [.num 1099511627775] s w (.returned (.tuple #[])) w1) := ⟨B1, .inr ⟨fs, r, h1, rfl, h2⟩⟩
  clear h1 K h2
  go_wp2
  go_end0
  exact HE.out
theorem number_reads : Reads 41 [.num 1099511627775] := fun b xb o cs t s w h => number_rd b xb o cs t s w h.len h.rd h.x h.z.lt h.ne
set_option maxHeartbeats 800000 in
theorem readFlag_all (b : Nat) (s : List UInt8) (w : World) (k : RdAt w b s) (hL : s.length ≤ 1099511627000) :
  Calls Tryz.prog 220 #[.pointer (some ⟨b, 0, none⟩)] w fun e w' => GotE b (flagP s) (fun n => .bool n) w e w' := by
 cases s with
 | nil =>
  have K1 := cut_short b [] 1 w k (by simp) (by omega)
  go_enter Tryz.func220, Tryz.ntmps220
  go_wp2_with fail
  refine K1.mono ?_
  rintro e w1 ⟨rfl, rfl⟩
  unfold refusedE
  go_wp2
  exact ⟨rfl, But.refl _ _, .inl ⟨1, rfl, rfl⟩⟩
 | cons c r =>
  have K1 := cut_any b (c :: r) 1 w k (by simp) (by omega)
  simp only [List.take_succ_cons, List.take_zero, List.drop_succ_cons, List.drop_zero] at K1
  have hix : ∀ h : 0 < (⟨#[c]⟩ : ByteArray).size, ((⟨#[c]⟩ : ByteArray)[0]'h).toNat = c.toNat := fun h => rfl
  by_cases h1 : 1 < c.toNat
  ·have h1' : (1 : Int) < (c.toNat : Int) := by omega
   have HE : Hid (flagP (c :: r) = .error 2) := by show (if _ then _ else _) = _; rw [if_pos h1]
   generalize c.toNat = z at *
   go_enter Tryz.func220, Tryz.ntmps220
   go_wp2_with fail
   refine K1.mono ?_
   rintro e w1 ⟨rfl, k1, B1⟩
   go_wp2_with fail
   refine (refuse_any 2 _).mono ?_
   rintro e w2 ⟨rfl, rfl⟩
   go_wp2
   exact ⟨rfl, B1, .inl ⟨2, HE.out, rfl⟩⟩
  ·have h1' : ¬ (1 : Int) < (c.toNat : Int) := by omega
   have HE : Hid (flagP (c :: r) = .ok (c == 1, r)) := by show (if _ then _ else _) = _; rw [if_neg h1]
   have hcb : ((c.toNat : Int) == 1) = (c == 1) := by
    by_cases hc : c = 1
    ·subst hc; rfl
    ·have h2 : ¬ c.toNat = 1 := fun e => hc (UInt8.toNat_inj.1 (by simpa using e))
     have h3 : ((c.toNat : Int) == 1) = false := by rw [beq_eq_false_iff_ne]; omega
     rw [h3]
     simpa using hc
   have HC : Hid (((c.toNat : Int) == 1) = (c == 1)) := hcb
   generalize hq : (c == 1) = f at *
   clear hq
   generalize c.toNat = z at *
   go_enter Tryz.func220, Tryz.ntmps220
   go_wp2_with fail
   refine K1.mono ?_
   rintro e w1 ⟨rfl, k1, B1⟩
   go_wp2
   go_ret
   exact ⟨B1, .inr ⟨f, r, HE.out, by rw [← HC.out]; rfl, k1⟩⟩
set_option maxHeartbeats 800000 in
theorem flag_rd (b xb o : Nat) (cs : Array Value) (t : TypeId) (s : List UInt8) (w : World) (hL : s.length ≤ 1099511627000) (k : RdAt w b s) (kx : Blk w xb cs t) (hj : o < cs.size) (hne : xb ≠ b) :
  Calls Tryz.prog 125 #[.pointer (some ⟨b, 0, none⟩), .pointer (some ⟨xb, o, none⟩)] w fun e w' => RdE b xb o cs t [.flag] s w e w' := by
 have k' : Blk w b #[.bool true, .slice none 0 0, .string ⟨s.toArray⟩] 185 := k
 have c0 := (k'.cell 0).trans rfl
 have zb := k'.lt
 have KN := readFlag_all b s w k hL
 go_enter Tryz.func125, Tryz.ntmps125
 go_wp2_with fail
 refine KN.mono ?_
 rintro e w1 ⟨B1, ⟨er, h1, rfl⟩ | ⟨x, r, h1, rfl, k1⟩⟩
 ·have HE : Hid (RdE b xb o cs t [.flag] s w (refusedE er) w1) := ⟨B1.mono (fun _ h => .inl h), .inl ⟨er, by rw [readAll_one, Sc.read, h1], rfl⟩⟩
  clear h1 KN
  unfold refusedE at *
  go_wp2
  exact ⟨rfl, HE.out⟩
 ·have kx1 := B1.blk kx hne
  have xc : w1.cell? ⟨xb, o, none⟩ = some cs[o] := by rw [kx1.cell]; simp [hj]
  have xf := kx1.frozen o
  have zx := kx1.lt
  have kx2 := kx1.set o (.bool x)
  have k2 : Blk (w1.setCell ⟨xb, o, none⟩ (.bool x)) b #[.bool true, .slice none 0 0, .string ⟨r.toArray⟩] 185 := Blk.setOther (show Blk w1 b #[.bool true, .slice none 0 0, .string ⟨r.toArray⟩] 185 from k1) ⟨xb, o, none⟩ (fun e => hne e.symm) (.bool x)
  have B2 : But (fun k => k = b ∨ k = xb) w (w1.setCell ⟨xb, o, none⟩ (.bool x)) := (B1.mono (fun _ h => .inl h)).trans (But.set w1 (p := ⟨xb, o, none⟩) (.inr rfl) _)
  have HE : Hid (RdE b xb o cs t [.flag] s w (.returned (.tuple #[])) (w1.setCell ⟨xb, o, none⟩ (.bool x))) := ⟨B2, .inr ⟨[.b x], r, by rw [readAll_one, Sc.read, h1]; rfl, rfl, k2, kx2, fun f hf => by simp at hf; subst hf; trivial⟩⟩
  clear c0 zb KN k k' kx B1 k1 h1
  go_wp2
  exact bodyPost_ret (v := .tuple #[]) (by simp [results, Tryz.results125]) rfl HE.out
set_option maxHeartbeats 800000 in
theorem digest_rd (b xb o : Nat) (cs : Array Value) (t : TypeId) (s : List UInt8) (w : World) (hL : s.length ≤ 1099511627000) (k : RdAt w b s) (kx : Blk w xb cs t) (hj : o < cs.size) (hne : xb ≠ b) :
  Calls Tryz.prog 126 #[.pointer (some ⟨b, 0, none⟩), .pointer (some ⟨xb, o, none⟩)] w fun e w' => RdE b xb o cs t [.dig] s w e w' := by
 have k' : Blk w b #[.bool true, .slice none 0 0, .string ⟨s.toArray⟩] 185 := k
 have c0 := (k'.cell 0).trans rfl
 have zb := k'.lt
 by_cases h8 : s.length < 8
 ·have K1 := cut_short b s 8 w k h8 (by omega)
  have HE : Hid (RdE b xb o cs t [.dig] s w (refusedE 1) w) := ⟨But.refl _ _, .inl ⟨1, by rw [readAll_one, Sc.read]; unfold digP; rw [if_pos h8], rfl⟩⟩
  go_enter Tryz.func126, Tryz.ntmps126
  go_wp2_with fail
  refine K1.mono ?_
  rintro e w1 ⟨rfl, rfl⟩
  unfold refusedE at *
  go_wp2
  exact ⟨rfl, HE.out⟩
 ·have K1 := cut_any b s 8 w k (by omega) (by omega)
  have K2 := fun w' => valueOf_any (s.take 8) w' (by rw [List.length_take]; omega)
  have hl : (s.take 8).length = 8 := by rw [List.length_take]; omega
  have hv := val_lt (s.take 8)
  rw [hl] at hv
  have HD : Hid (readAll [.dig] s = .ok ([.d (val (s.take 8))], s.drop 8)) := by
   show _ = _
   rw [readAll_one, Sc.read]
   unfold digP
   rw [if_neg h8]
  generalize s.take 8 = l at *
  generalize s.drop 8 = r at *
  have hvb : (0 : Int) ≤ ((val l : Nat) : Int) ∧ ((val l : Nat) : Int) ≤ 18446744073709551615 := by omega
  generalize ((val l : Nat) : Int) = d at *
  clear hv hl h8
  go_enter Tryz.func126, Tryz.ntmps126
  go_wp2_with fail
  refine K1.mono ?_
  rintro e w1 ⟨rfl, k1, B1⟩
  go_wp2_with fail
  refine (K2 w1).mono ?_
  rintro e w1' ⟨rfl, rfl⟩
  have kx1 := B1.blk kx hne
  have xc : w1.cell? ⟨xb, o, none⟩ = some cs[o] := by rw [kx1.cell]; simp [hj]
  have xf := kx1.frozen o
  have zx := kx1.lt
  have kx2 := kx1.set o (.int .u64 d)
  have k2 : Blk (w1.setCell ⟨xb, o, none⟩ (.int .u64 d)) b #[.bool true, .slice none 0 0, .string ⟨r.toArray⟩] 185 := Blk.setOther (show Blk w1 b #[.bool true, .slice none 0 0, .string ⟨r.toArray⟩] 185 from k1) ⟨xb, o, none⟩ (fun e => hne e.symm) (.int .u64 d)
  have B2 : But (fun k => k = b ∨ k = xb) w (w1.setCell ⟨xb, o, none⟩ (.int .u64 d)) := (B1.mono (fun _ h => .inl h)).trans (But.set w1 (p := ⟨xb, o, none⟩) (.inr rfl) _)
  have HE : Hid (RdE b xb o cs t [.dig] s w (.returned (.tuple #[])) (w1.setCell ⟨xb, o, none⟩ (.int .u64 d))) := ⟨B2, .inr ⟨[.d d], r, HD.out, rfl, k2, kx2, fun f hf => by simp at hf; subst hf; exact hvb⟩⟩
  clear c0 zb K1 K2 k k' kx B1 k1
  go_wp2
  exact bodyPost_ret (v := .tuple #[]) (by simp [results, Tryz.results126]) rfl HE.out
theorem flag_reads : Reads 125 [.flag] := fun b xb o cs t s w h => flag_rd b xb o cs t s w h.len h.rd h.x h.z.lt h.ne
theorem digest_reads : Reads 126 [.dig] := fun b xb o cs t s w h => digest_rd b xb o cs t s w h.len h.rd h.x h.z.lt h.ne
end Go.Proofs.YtackcbpabjhmpaaGreat
