import Derived.Test.YtpofgnlkhkednaaGreatDoorM05
namespace Go.Proofs.YtpofgnlkhkednaaGreatDoor
open Go.RowKit
set_option linter.unusedVariables false
set_option linter.unusedSimpArgs false
set_option maxRecDepth 20000
set_option maxHeartbeats 8000000
theorem Tok.fix_iff (t : Tok) (s : Key) : (t.class = 4 ∧ t.text = s) ↔ t = .fixed s := by
 cases t <;> simp [Tok.class, Tok.text]
theorem is_b (s : Key) (b : Nat) (S : ES) (w : World) (h : RAt w b S) : Calls Tryz.prog 42 #[.pointer (some ⟨b, 0, none⟩), .string (str s)] w fun e w' => e = .returned (.bool (stands s S)) ∧ But (fun k => k = b) w w' ∧ RAt w' b S := by
 have R := h;obtain ⟨g, h5, hx⟩ := h;have hs : (str s).toList = s := str_toList _
 cases S with
 | ok σ =>
  obtain ⟨k, hr⟩ := hx;unfold rcells at k;obtain ⟨zb, ⟨c0, c1, c2, c3, c4, c5⟩, f0, f1, f2, f3, f4, f5⟩ := k.six;have ht : (str σ.now.text).toList = σ.now.text := str_toList _;obtain ⟨T, HT⟩ : ∃ T, Hid (T = σ.now.text) := ⟨_, rfl⟩;rw [← HT.out] at ht c2;obtain ⟨x, Hx⟩ : ∃ x, Hid (x = stands s (.ok σ)) := ⟨_, rfl⟩;rw [← Hx.out]
  by_cases h4 : σ.now.class = 4
  ·have HR : Hid ((T == s) = x) := by
    show _ = _;rw [Hx.out, HT.out];unfold stands;rw [Bool.eq_iff_iff];simp [← Tok.fix_iff, h4]
   rw [h4] at c1
   go_enter Tryz.func42, Tryz.ntmps42
   go_wp2
   go_ret
   exact ⟨by rw [← HR.out]; rfl, But.refl _ _, R⟩
  ·have HR : Hid (false = x) := by
    show _ = _;rw [Hx.out];unfold stands;simp [← Tok.fix_iff, h4]
   have h4' : (σ.now.class == 4) = false := by simpa using h4
   clear HT Hx
   go_enter Tryz.func42, Tryz.ntmps42
   go_wp2
   go_ret
   exact ⟨by rw [← HR.out]; rfl, But.refl _ _, R⟩
 | error e0 =>
  obtain ⟨h0, r, lv, k⟩ := hx;unfold rcells at k;obtain ⟨zb, ⟨c0, c1, c2, c3, c4, c5⟩, f0, f1, f2, f3, f4, f5⟩ := k.six;have c1' : w.cell? ⟨b, 1, none⟩ = some (.int .i64 0) := c1;clear c1
  go_enter Tryz.func42, Tryz.ntmps42
  go_wp2
  go_ret
  exact ⟨rfl, But.refl _ _, R⟩
theorem is_v (s : Key) : CtV 42 [.string (str s)] Value.bool (isT s) := fun b S w h =>
 (is_b s b S w h).mono fun e w' ⟨h1, h2, h3⟩ => ⟨_, h1, h2, S, h3, rel_is s S⟩
theorem ahead_b (s : Key) (b : Nat) (S : ES) (w : World) (h : RAt w b S) : Calls Tryz.prog 20 #[.pointer (some ⟨b, 0, none⟩), .string (str s)] w fun e w' => e = .returned (.bool (going s S)) ∧ But (fun k => k = b) w w' ∧ RAt w' b S := by
 have R := h;obtain ⟨g, h5, hx⟩ := h
 cases S with
 | ok σ =>
  obtain ⟨k, hr⟩ := hx;unfold rcells at k;obtain ⟨zb, ⟨c0, c1, c2, c3, c4, c5⟩, f0, f1, f2, f3, f4, f5⟩ := k.six;have K := is_b s b (.ok σ) w R;obtain ⟨x, Hx⟩ : ∃ x, Hid (x = stands s (.ok σ)) := ⟨_, rfl⟩;rw [← Hx.out] at K;have HG : Hid (going s (.ok σ) = !x) := by show _ = _; rw [Hx.out]; rfl
  clear Hx
  go_enter Tryz.func20, Tryz.ntmps20
  go_wp2_with fail
  refine K.mono ?_;rintro e w1 ⟨rfl, B1, R1⟩
  go_wp2
  go_ret
  exact ⟨by rw [HG.out]; rfl, B1, R1⟩
 | error e0 =>
  obtain ⟨h0, r, lv, k⟩ := hx;unfold rcells at k;obtain ⟨zb, ⟨c0, c1, c2, c3, c4, c5⟩, f0, f1, f2, f3, f4, f5⟩ := k.six;have hne : (e0 == 0) = false := by simpa using h0
  go_enter Tryz.func20, Tryz.ntmps20
  go_wp2
  go_ret
  exact ⟨rfl, But.refl _ _, R⟩
theorem takeT_eq (s : Key) : takeT s = bnd (isT s) fun c => if c then nextT else wrongT := by
 funext σ;simp only [takeT, bnd, isT, wrongT]
 by_cases h : σ.now = .fixed s
 ·simp [h]
 ·simp [h]; rfl
theorem take_u (s : Key) : CtU 18 [.string (str s)] (takeT s) := by
 intro b S w R;rw [takeT_eq]
 go_enter Tryz.func18, Tryz.ntmps18
 go_wp2_with fail
 refine (is_v s b _ w R).mono ?_;rintro e w1 ⟨x, rfl, B1, S1, R1, h1⟩;have HB := show Hid (_) from B1;clear B1
 cases x with
 | true =>
  go_wp2_with fail
  refine (next_u b _ w1 R1).mono ?_;rintro e w2 ⟨rfl, B2, S2, R2, h2⟩
  go_wp2
  go_end0
  exact ⟨rfl, HB.out.trans B2, S2, R2, h1.bind h2⟩
 | false =>
  go_wp2_with fail
  refine (wrong_u b _ w1 R1).mono ?_;rintro e w2 ⟨rfl, B2, S2, R2, h2⟩
  go_wp2
  exact ret_unit Tryz.results18 rfl ⟨rfl, HB.out.trans B2, S2, R2, h1.bind h2⟩
theorem room_u (n m : Int) : CtU 43 [.int .i64 n, .int .i64 m] (roomT n m) := by
 intro b S w R
 by_cases h : m ≤ n
 ·have HF : Hid (roomT n m = failT 3) := if_pos h
  go_enter Tryz.func43, Tryz.ntmps43
  go_wp2_with fail
  refine (fail_u 3 (by omega) b _ w R).mono ?_;rintro e w2 ⟨rfl, B2, S2, R2, h2⟩
  go_wp2
  go_end0
  exact ⟨rfl, B2, S2, R2, by rw [HF.out]; exact h2⟩
 ·have HF : Hid (roomT n m = pur ()) := if_neg h
  go_enter Tryz.func43, Tryz.ntmps43
  go_wp2
  go_end0
  exact ⟨rfl, But.refl _ _, S, R, by rw [HF.out]; exact Rel.pur _ _⟩
theorem deeper_u : CtU 75 [] deeperT := by
 intro b S w h;have R := h;obtain ⟨g, h5, hx⟩ := h
 cases S with
 | ok σ =>
  obtain ⟨k, hr⟩ := hx;unfold rcells at k;obtain ⟨zb, ⟨c0, c1, c2, c3, c4, c5⟩, f0, f1, f2, f3, f4, f5⟩ := k.six
  by_cases h32 : σ.lv = 32
  ·have HD : Hid (deeperT σ = .error 7) := if_pos h32;rw [h32] at c4
   go_enter Tryz.func75, Tryz.ntmps75
   go_wp2_with fail
   refine (fail_u 7 (by omega) b _ w R).mono ?_;rintro e w2 ⟨rfl, B2, S2, R2, h2⟩;have h2 := h2.get_err (e := 7) rfl;subst h2;obtain ⟨g2, _, h0, r, lv, k2⟩ := R2;unfold rcells at k2;clear c0 c1 c2 c3 c4 c5 f0 f1 f2 f3 f4 f5 zb;obtain ⟨zb, ⟨c0, c1, c2, c3, c4, c5⟩, f0, f1, f2, f3, f4, f5⟩ := k2.six
   go_wp2
   go_end0
   exact ⟨rfl, bset B2, .error 7, rat g h5 (bset B2) ⟨h0, r, _, k2.set 4 _⟩, Rel.of_err HD.out⟩
  ·have HD : Hid (deeperT σ = .ok ((), { σ with lv := wrap64 (σ.lv + 1) })) := if_neg h32;have h32' : (σ.lv == 32) = false := by simpa using h32
   go_enter Tryz.func75, Tryz.ntmps75
   go_wp2
   go_end0
   have B2 := bset (i := 4) (v := .int .i64 (wrap64 (σ.lv + 1))) (But.refl (fun k => k = b) w);exact ⟨rfl, B2, .ok { σ with lv := wrap64 (σ.lv + 1) }, rat g h5 B2 ⟨k.set 4 _, hr⟩, Rel.of_ok HD.out⟩
 | error e0 =>
  obtain ⟨h0, r, lv, k⟩ := hx;unfold rcells at k;obtain ⟨zb, ⟨c0, c1, c2, c3, c4, c5⟩, f0, f1, f2, f3, f4, f5⟩ := k.six
  by_cases h32 : lv = 32
  ·subst h32
   go_enter Tryz.func75, Tryz.ntmps75
   go_wp2_with fail
   refine (fail_u 7 (by omega) b _ w R).mono ?_;rintro e w2 ⟨rfl, B2, S2, R2, h2⟩;have h2 : S2 = .error e0 := h2;subst h2;obtain ⟨g2, _, h0, r, lv, k2⟩ := R2;unfold rcells at k2;clear c0 c1 c2 c3 c4 c5 f0 f1 f2 f3 f4 f5 zb;obtain ⟨zb, ⟨c0, c1, c2, c3, c4, c5⟩, f0, f1, f2, f3, f4, f5⟩ := k2.six
   go_wp2
   go_end0
   exact ⟨rfl, bset B2, .error e0, rat g h5 (bset B2) ⟨h0, r, _, k2.set 4 _⟩, rfl⟩
  ·have h32' : (lv == 32) = false := by simpa using h32
   go_enter Tryz.func75, Tryz.ntmps75
   go_wp2
   go_end0
   exact ⟨rfl, bset (But.refl _ _), .error e0, rat g h5 (bset (But.refl _ _)) ⟨h0, r, _, k.set 4 _⟩, rfl⟩
theorem open_u (s : Key) : CtU 66 [.string (str s)] (openT s) := by
 intro b S w R;unfold openT
 go_enter Tryz.func66, Tryz.ntmps66
 go_wp2_with fail
 refine (is_v s b _ w R).mono ?_;rintro e w1 ⟨x, rfl, B1, S1, R1, h1⟩;have HB := show Hid (_) from B1;clear B1
 cases x with
 | true =>
  go_wp2_with fail
  refine (deeper_u b _ w1 R1).mono ?_;rintro e w2 ⟨rfl, B2, S2, R2, h2⟩
  go_wp2_with fail
  refine (take_u s b _ w2 R2).mono ?_;rintro e w3 ⟨rfl, B3, S3, R3, h3⟩
  go_wp2
  go_end0
  exact ⟨rfl, (HB.out.trans B2).trans B3, S3, R3, h1.bind (Rel.bind (F := deeperT) h2 h3)⟩
 | false =>
  go_wp2_with fail
  refine (take_u s b _ w1 R1).mono ?_;rintro e w3 ⟨rfl, B3, S3, R3, h3⟩
  go_wp2
  go_end0
  exact ⟨rfl, HB.out.trans B3, S3, R3, h1.bind (Rel.bind (F := pur ()) (Rel.pur _ _) h3)⟩
theorem shut_u (s : Key) : CtU 68 [.string (str s)] (shutT s) := by
 intro b S w R;unfold shutT
 go_enter Tryz.func68, Tryz.ntmps68
 go_wp2_with fail
 refine (take_u s b _ w R).mono ?_;rintro e w1 ⟨rfl, B1, S1, R1, h1⟩;obtain ⟨g, h5, hx⟩ := R1;have HB := show Hid (_) from B1;clear B1
 cases S1 with
 | ok σ =>
  obtain ⟨k, hr⟩ := hx;unfold rcells at k;obtain ⟨zb, ⟨c0, c1, c2, c3, c4, c5⟩, f0, f1, f2, f3, f4, f5⟩ := k.six
  go_wp2
  go_end0
  exact ⟨rfl, bset HB.out, .ok { σ with lv := wrap64 (σ.lv - 1) }, rat g h5 (bset (But.refl _ _)) ⟨k.set 4 _, hr⟩, h1.bind (Rel.of_ok rfl)⟩
 | error e0 =>
  obtain ⟨h0, r, lv, k⟩ := hx;unfold rcells at k;obtain ⟨zb, ⟨c0, c1, c2, c3, c4, c5⟩, f0, f1, f2, f3, f4, f5⟩ := k.six
  go_wp2
  go_end0
  exact ⟨rfl, bset HB.out, .error e0, rat g h5 (bset (But.refl _ _)) ⟨h0, r, _, k.set 4 _⟩, h1.bind (Rel.err (F := upT) (x := ()))⟩
theorem name_v : CtV 19 [] (fun s => Value.string (str s)) nameT := by
 intro b S w h;have R := h;obtain ⟨g, h5, hx⟩ := h
 cases S with
 | ok σ =>
  obtain ⟨k, hr⟩ := hx;unfold rcells at k;obtain ⟨zb, ⟨c0, c1, c2, c3, c4, c5⟩, f0, f1, f2, f3, f4, f5⟩ := k.six
  by_cases h2 : ∃ s, σ.now = .name s
  ·obtain ⟨s, hs⟩ := h2
   have HN : Hid (nameT σ = bnd nextT (fun _ => pur s) σ) := by
    show _ = _;unfold nameT;rw [hs]
   rw [hs] at c1 c2;have c1' : w.cell? ⟨b, 1, none⟩ = some (.int .i64 2) := c1;have c2' : w.cell? ⟨b, 2, none⟩ = some (.string (str s)) := c2;clear c1 c2 hs
   go_enter Tryz.func19, Tryz.ntmps19
   go_wp2_with fail
   refine (next_u b _ w R).mono ?_;rintro e w1 ⟨rfl, B1, S1, R1, h1⟩
   go_wp2
   go_ret
   refine ⟨s, rfl, B1, S1, R1, ?_⟩;have := h1.bind (G := fun _ => pur s) (Rel.pur s S1);unfold Rel at this ⊢;simp only [HN.out];exact this
  ·have h2' : (σ.now.class != 2) = true := by
    cases h : σ.now <;> simp [Tok.class]
    exact h2 ⟨_, h⟩
   have HN : Hid (nameT σ = .error (errT σ)) := by
    show _ = _;unfold nameT;cases h : σ.now <;> simp_all
   clear h2
   go_enter Tryz.func19, Tryz.ntmps19
   go_wp2_with fail
   refine (wrong_u b _ w R).mono ?_;rintro e w1 ⟨rfl, B1, S1, R1, h1⟩;have h1 := h1.get_err (e := errT σ) rfl;subst h1
   go_wp2
   go_ret
   exact ⟨[], rfl, B1, _, R1, Rel.of_err HN.out⟩
 | error e0 =>
  obtain ⟨h0, r, lv, k⟩ := hx;unfold rcells at k;obtain ⟨zb, ⟨c0, c1, c2, c3, c4, c5⟩, f0, f1, f2, f3, f4, f5⟩ := k.six;have c1' : w.cell? ⟨b, 1, none⟩ = some (.int .i64 0) := c1;clear c1
  go_enter Tryz.func19, Tryz.ntmps19
  go_wp2_with fail
  refine (wrong_u b _ w R).mono ?_;rintro e w1 ⟨rfl, B1, S1, R1, h1⟩
  go_wp2
  go_ret
  exact ⟨[], rfl, B1, S1, R1, h1⟩
def numbered : Int → List Key → List (Int × Key)
 | _, [] => []
 | k, s :: r => (k, s) :: numbered (k + 1) r
theorem Gl.word {w : World} (h : Gl w) {g : Nat} {L : List Key} (hg : g < 9) (e : tabV g = sv L) {j : Nat} {s : Key} (hs : L[j]? = some s) : w.cell? ⟨g, j, none⟩ = some (.string (str s)) := by
 have := h.tab g hg j (.string (str s)) (by rw [e]; simp [sv, hs])
 rwa [Nat.zero_add] at this
theorem pick_step {L : List Key} {j : Nat} {s : Key} (hs : L[j]? = some s) (k : Int) (S : ES) : pickI (numbered k (L.drop j)) S = if stands s S then k else pickI (numbered (k + 1) (L.drop (j + 1))) S := by
 obtain ⟨h1, h2⟩ := List.getElem?_eq_some_iff.1 hs;rw [List.drop_eq_getElem_cons h1, h2];rfl
def kindW : List (Int × Key) := numbered 1 (kindL.drop 1)
def stepW : List (Int × Key) := numbered 1 (stepL.drop 1)
def kindT : PM Int := bnd (pickT kindW) fun k => if k = 0 then wrongT else bnd nextT fun _ => pur k
theorem stepKind_b (b : Nat) (S : ES) (w : World) (R : RAt w b S) : Calls Tryz.prog 77 #[.pointer (some ⟨b, 0, none⟩)] w fun e w' => e = .returned (.int .i64 (pickI stepW S)) ∧ But (fun k => k = b) w w' ∧ RAt w' b S := by
 have K := fun s w' => is_b s b S w'
 go_enter Tryz.func77, Tryz.ntmps77
 go_wp2_with fail
 go_loopw [3] (fun kv wv => ∃ k : Nat, 1 ≤ k ∧ k ≤ 11 ∧ kv = .int .i64 k ∧ Hid (pickI stepW S = pickI (numbered k (stepL.drop k)) S) ∧ But (fun k => k = b) w wv ∧ RAt wv b S) (fun kv _ => 11 - (intOf kv).toNat)
 case atStart => exact ⟨1, by omega, by omega, rfl, rfl, But.refl _ _, R⟩
 case round =>
  obtain ⟨k, hk1, hk2, rfl, HP, B, Rk⟩ := hrel
  by_cases hlt : k ≤ 10
  ·have hlt' : (k : Int) ≤ 10 := by omega
   obtain ⟨s, hs⟩ : ∃ s, stepL[k]? = some s := ⟨_, List.getElem?_eq_getElem (by simp [stepL]; omega)⟩;have hc := Rk.gl.word (g := 4) (by omega) rfl hs;have hz := Rk.gl.sz;have HS := show Hid (_ = _) from pick_step hs k S;have Ks := K s wr Rk;clear hs K;obtain ⟨x, Hx⟩ : ∃ x, Hid (x = stands s S) := ⟨_, rfl⟩;rw [← Hx.out] at Ks
   go_wp2_with fail
   refine Ks.mono ?_;rintro e w1 ⟨rfl, B1, R1⟩;have HB : Hid (But (fun k => k = b) w w1) := B.trans B1;clear B1 B
   cases x with
   | true =>
    have HE : Hid (pickI stepW S = k) := by
     show _ = _;rw [HP.out, HS.out, ← Hx.out, if_pos rfl]
    clear HP HS Hx
    go_wp2
    go_ret
    exact ⟨by rw [HE.out]; rfl, HB.out, R1⟩
   | false =>
    have HE : Hid (pickI stepW S = pickI (numbered ((k + 1 : Nat) : Int) (stepL.drop (k + 1))) S) := by
     show _ = _;rw [HP.out, HS.out, ← Hx.out, if_neg (by simp)];rfl
    clear HP HS Hx
    go_wp2
    exact ⟨⟨k + 1, by omega, by omega, by go_num, HE, HB.out, R1⟩, by simp [intOf]; omega⟩
  ·have hge : ¬ (k : Int) ≤ 10 := by omega
   have HE : Hid (pickI stepW S = 0) := by
    show _ = _;rw [HP.out, show k = 11 by omega];rfl
   clear HP
   go_wp2
   go_ret
   exact ⟨by rw [HE.out]; rfl, B, Rk⟩
theorem kind_b (b : Nat) (S : ES) (w : World) (R : RAt w b S) : Calls Tryz.prog 55 #[.pointer (some ⟨b, 0, none⟩)] w fun e w' => ∃ k : Int, (0 ≤ k ∧ k ≤ 3) ∧ e = .returned (.int .i64 k) ∧ But (fun k => k = b) w w' ∧ ∃ S', RAt w' b S' ∧ Rel kindT S k S' := by
 have K := fun s w' => is_b s b S w'
 go_enter Tryz.func55, Tryz.ntmps55
 go_wp2_with fail
 go_loopw [3] (fun kv wv => ∃ k : Nat, 1 ≤ k ∧ k ≤ 4 ∧ kv = .int .i64 k ∧ Hid (pickI kindW S = pickI (numbered k (kindL.drop k)) S) ∧ But (fun k => k = b) w wv ∧ RAt wv b S) (fun kv _ => 4 - (intOf kv).toNat)
 case atStart => exact ⟨1, by omega, by omega, rfl, rfl, But.refl _ _, R⟩
 case round =>
  obtain ⟨k, hk1, hk2, rfl, HP, B, Rk⟩ := hrel
  by_cases hlt : k ≤ 3
  ·have hlt' : (k : Int) ≤ 3 := by omega
   obtain ⟨s, hs⟩ : ∃ s, kindL[k]? = some s := ⟨_, List.getElem?_eq_getElem (by simp [kindL]; omega)⟩;have hc := Rk.gl.word (g := 0) (by omega) rfl hs;have hz := Rk.gl.sz;have HS := show Hid (_ = _) from pick_step hs k S;have Ks := K s wr Rk;clear hs K;obtain ⟨x, Hx⟩ : ∃ x, Hid (x = stands s S) := ⟨_, rfl⟩;rw [← Hx.out] at Ks
   go_wp2_with fail
   refine Ks.mono ?_;rintro e w1 ⟨rfl, B1, R1⟩;have HB : Hid (But (fun k => k = b) w w1) := B.trans B1;clear B1 B
   cases x with
   | true =>
    have HE : Hid (pickI kindW S = k) := by
     show _ = _;rw [HP.out, HS.out, ← Hx.out, if_pos rfl]
    clear HP HS Hx;have hk0 : ¬ (k : Int) = 0 := by omega
    go_wp2_with fail
    refine (next_u b _ w1 R1).mono ?_;rintro e w2 ⟨rfl, B2, S2, R2, h2⟩
    go_wp2
    go_ret
    exact ⟨(k : Int), by omega, rfl, HB.out.trans B2, S2, R2, (rel_pick kindW S).bind (by rw [HE.out, if_neg hk0]; exact h2.bind (Rel.pur _ _))⟩
   | false =>
    have HE : Hid (pickI kindW S = pickI (numbered ((k + 1 : Nat) : Int) (kindL.drop (k + 1))) S) := by
     show _ = _;rw [HP.out, HS.out, ← Hx.out, if_neg (by simp)];rfl
    clear HP HS Hx
    go_wp2
    exact ⟨⟨k + 1, by omega, by omega, by go_num, HE, HB.out, R1⟩, by simp [intOf]; omega⟩
  ·have hge : ¬ (k : Int) ≤ 3 := by omega
   have HE : Hid (pickI kindW S = 0) := by
    show _ = _;rw [HP.out, show k = 4 by omega];rfl
   clear HP
   go_wp2_with fail
   refine (wrong_u b _ wr Rk).mono ?_;rintro e w2 ⟨rfl, B2, S2, R2, h2⟩
   go_wp2
   go_ret
   refine ⟨0, by omega, rfl, B.trans B2, S2, R2, (rel_pick kindW S).bind ?_⟩;rw [HE.out, if_pos rfl]
   cases S with
   | error e => exact h2
   | ok σ => exact h2
def rankI (n : Int) : Int := if n = 6 then 1 else if n = 7 then 2 else if n = 8 then 3 else if n ≤ 14 then 4 else if n ≤ 16 then 5 else if n ≤ 19 then 6 else 7
theorem rank_6 (w : World) : Calls Tryz.prog 82 #[.int .i64 6] w fun e w' => e = .returned (.int .i64 1) ∧ w = w' := by
 go_enter Tryz.func82, Tryz.ntmps82
 go_wp2
 go_ret
 exact ⟨rfl, rfl⟩
theorem rank_7 (w : World) : Calls Tryz.prog 82 #[.int .i64 7] w fun e w' => e = .returned (.int .i64 2) ∧ w = w' := by
 go_enter Tryz.func82, Tryz.ntmps82
 go_wp2
 go_ret
 exact ⟨rfl, rfl⟩
theorem rank_8 (w : World) : Calls Tryz.prog 82 #[.int .i64 8] w fun e w' => e = .returned (.int .i64 3) ∧ w = w' := by
 go_enter Tryz.func82, Tryz.ntmps82
 go_wp2
 go_ret
 exact ⟨rfl, rfl⟩
theorem rank_9 (w : World) : Calls Tryz.prog 82 #[.int .i64 9] w fun e w' => e = .returned (.int .i64 4) ∧ w = w' := by
 go_enter Tryz.func82, Tryz.ntmps82
 go_wp2
 go_ret
 exact ⟨rfl, rfl⟩
theorem rank_10 (w : World) : Calls Tryz.prog 82 #[.int .i64 10] w fun e w' => e = .returned (.int .i64 4) ∧ w = w' := by
 go_enter Tryz.func82, Tryz.ntmps82
 go_wp2
 go_ret
 exact ⟨rfl, rfl⟩
theorem rank_11 (w : World) : Calls Tryz.prog 82 #[.int .i64 11] w fun e w' => e = .returned (.int .i64 4) ∧ w = w' := by
 go_enter Tryz.func82, Tryz.ntmps82
 go_wp2
 go_ret
 exact ⟨rfl, rfl⟩
theorem rank_12 (w : World) : Calls Tryz.prog 82 #[.int .i64 12] w fun e w' => e = .returned (.int .i64 4) ∧ w = w' := by
 go_enter Tryz.func82, Tryz.ntmps82
 go_wp2
 go_ret
 exact ⟨rfl, rfl⟩
theorem rank_13 (w : World) : Calls Tryz.prog 82 #[.int .i64 13] w fun e w' => e = .returned (.int .i64 4) ∧ w = w' := by
 go_enter Tryz.func82, Tryz.ntmps82
 go_wp2
 go_ret
 exact ⟨rfl, rfl⟩
theorem rank_14 (w : World) : Calls Tryz.prog 82 #[.int .i64 14] w fun e w' => e = .returned (.int .i64 4) ∧ w = w' := by
 go_enter Tryz.func82, Tryz.ntmps82
 go_wp2
 go_ret
 exact ⟨rfl, rfl⟩
theorem rank_15 (w : World) : Calls Tryz.prog 82 #[.int .i64 15] w fun e w' => e = .returned (.int .i64 5) ∧ w = w' := by
 go_enter Tryz.func82, Tryz.ntmps82
 go_wp2
 go_ret
 exact ⟨rfl, rfl⟩
theorem rank_16 (w : World) : Calls Tryz.prog 82 #[.int .i64 16] w fun e w' => e = .returned (.int .i64 5) ∧ w = w' := by
 go_enter Tryz.func82, Tryz.ntmps82
 go_wp2
 go_ret
 exact ⟨rfl, rfl⟩
theorem rank_17 (w : World) : Calls Tryz.prog 82 #[.int .i64 17] w fun e w' => e = .returned (.int .i64 6) ∧ w = w' := by
 go_enter Tryz.func82, Tryz.ntmps82
 go_wp2
 go_ret
 exact ⟨rfl, rfl⟩
theorem rank_18 (w : World) : Calls Tryz.prog 82 #[.int .i64 18] w fun e w' => e = .returned (.int .i64 6) ∧ w = w' := by
 go_enter Tryz.func82, Tryz.ntmps82
 go_wp2
 go_ret
 exact ⟨rfl, rfl⟩
theorem rank_19 (w : World) : Calls Tryz.prog 82 #[.int .i64 19] w fun e w' => e = .returned (.int .i64 6) ∧ w = w' := by
 go_enter Tryz.func82, Tryz.ntmps82
 go_wp2
 go_ret
 exact ⟨rfl, rfl⟩
theorem rank_20 (w : World) : Calls Tryz.prog 82 #[.int .i64 20] w fun e w' => e = .returned (.int .i64 7) ∧ w = w' := by
 go_enter Tryz.func82, Tryz.ntmps82
 go_wp2
 go_ret
 exact ⟨rfl, rfl⟩
theorem rank_21 (w : World) : Calls Tryz.prog 82 #[.int .i64 21] w fun e w' => e = .returned (.int .i64 7) ∧ w = w' := by
 go_enter Tryz.func82, Tryz.ntmps82
 go_wp2
 go_ret
 exact ⟨rfl, rfl⟩
theorem rank_22 (w : World) : Calls Tryz.prog 82 #[.int .i64 22] w fun e w' => e = .returned (.int .i64 7) ∧ w = w' := by
 go_enter Tryz.func82, Tryz.ntmps82
 go_wp2
 go_ret
 exact ⟨rfl, rfl⟩
theorem rank_23 (w : World) : Calls Tryz.prog 82 #[.int .i64 23] w fun e w' => e = .returned (.int .i64 7) ∧ w = w' := by
 go_enter Tryz.func82, Tryz.ntmps82
 go_wp2
 go_ret
 exact ⟨rfl, rfl⟩
theorem rank_24 (w : World) : Calls Tryz.prog 82 #[.int .i64 24] w fun e w' => e = .returned (.int .i64 7) ∧ w = w' := by
 go_enter Tryz.func82, Tryz.ntmps82
 go_wp2
 go_ret
 exact ⟨rfl, rfl⟩
theorem rank_25 (w : World) : Calls Tryz.prog 82 #[.int .i64 25] w fun e w' => e = .returned (.int .i64 7) ∧ w = w' := by
 go_enter Tryz.func82, Tryz.ntmps82
 go_wp2
 go_ret
 exact ⟨rfl, rfl⟩
theorem rank_26 (w : World) : Calls Tryz.prog 82 #[.int .i64 26] w fun e w' => e = .returned (.int .i64 7) ∧ w = w' := by
 go_enter Tryz.func82, Tryz.ntmps82
 go_wp2
 go_ret
 exact ⟨rfl, rfl⟩
theorem rank_b (n : Nat) (h1 : 6 ≤ n) (h2 : n ≤ 26) (w : World) : Calls Tryz.prog 82 #[.int .i64 n] w fun e w' => e = .returned (.int .i64 (rankI n)) ∧ w = w' := by
 have : n = 6 ∨ n = 7 ∨ n = 8 ∨ n = 9 ∨ n = 10 ∨ n = 11 ∨ n = 12 ∨ n = 13 ∨ n = 14 ∨ n = 15 ∨ n = 16 ∨ n = 17 ∨ n = 18 ∨ n = 19 ∨ n = 20 ∨ n = 21 ∨ n = 22 ∨ n = 23 ∨ n = 24 ∨ n = 25 ∨ n = 26 := by omega
 rcases this with rfl | rfl | rfl | rfl | rfl | rfl | rfl | rfl | rfl | rfl | rfl | rfl | rfl | rfl | rfl | rfl | rfl | rfl | rfl | rfl | rfl
 ·exact rank_6 w
 ·exact rank_7 w
 ·exact rank_8 w
 ·exact rank_9 w
 ·exact rank_10 w
 ·exact rank_11 w
 ·exact rank_12 w
 ·exact rank_13 w
 ·exact rank_14 w
 ·exact rank_15 w
 ·exact rank_16 w
 ·exact rank_17 w
 ·exact rank_18 w
 ·exact rank_19 w
 ·exact rank_20 w
 ·exact rank_21 w
 ·exact rank_22 w
 ·exact rank_23 w
 ·exact rank_24 w
 ·exact rank_25 w
 ·exact rank_26 w
def ranked (r : Int) : Int → List Key → List (Int × Key)
 | _, [] => []
 | k, s :: l => if rankI k = r then (k, s) :: ranked r (k + 1) l else ranked r (k + 1) l
def operW (r : Int) : List (Int × Key) := ranked r 6 (exprL.drop 6)
theorem oper_step {L : List Key} {j : Nat} {s : Key} (hs : L[j]? = some s) (r k : Int) (S : ES) : pickI (ranked r k (L.drop j)) S = if rankI k = r ∧ stands s S = true then k else pickI (ranked r (k + 1) (L.drop (j + 1))) S := by
 obtain ⟨h1, h2⟩ := List.getElem?_eq_some_iff.1 hs;rw [List.drop_eq_getElem_cons h1, h2];rw [ranked]
 by_cases hr : rankI k = r
 ·rw [if_pos hr, pickI]
  by_cases h3 : stands s S = true
  ·rw [if_pos h3, if_pos ⟨hr, h3⟩]
  ·rw [if_neg h3, if_neg (fun q => h3 q.2)]
 ·rw [if_neg hr, if_neg (fun q => hr q.1)]
theorem oper_b (r : Int) (b : Nat) (S : ES) (w : World) (R : RAt w b S) : Calls Tryz.prog 90 #[.pointer (some ⟨b, 0, none⟩), .int .i64 r] w fun e w' => e = .returned (.int .i64 (pickI (operW r) S)) ∧ But (fun k => k = b) w w' ∧ RAt w' b S := by
 have K := fun s w' => is_b s b S w'
 go_enter Tryz.func90, Tryz.ntmps90
 go_wp2_with fail
 go_loopw [5] (fun kv wv => ∃ k : Nat, 6 ≤ k ∧ k ≤ 27 ∧ kv = .int .i64 k ∧ Hid (pickI (operW r) S = pickI (ranked r k (exprL.drop k)) S) ∧ But (fun k => k = b) w wv ∧ RAt wv b S) (fun kv _ => 27 - (intOf kv).toNat)
 case atStart => exact ⟨6, by omega, by omega, rfl, rfl, But.refl _ _, R⟩
 case round =>
  obtain ⟨k, hk1, hk2, rfl, HP, B, Rk⟩ := hrel
  by_cases hlt : k ≤ 26
  ·have hlt' : (k : Int) ≤ 26 := by omega
   obtain ⟨s, hs⟩ : ∃ s, exprL[k]? = some s := ⟨_, List.getElem?_eq_getElem (by simp [exprL]; omega)⟩;have hc := Rk.gl.word (g := 5) (by omega) rfl hs;have hz := Rk.gl.sz;have HS := show Hid (_ = _) from oper_step hs r k S;have Ks := K s wr Rk;have Kr := fun w' => rank_b k hk1 hlt w';clear hs K;obtain ⟨x, Hx⟩ : ∃ x, Hid (x = stands s S) := ⟨_, rfl⟩;rw [← Hx.out] at Ks;obtain ⟨q, Hq⟩ : ∃ q, Hid (q = rankI k) := ⟨_, rfl⟩;rw [← Hq.out] at Kr
   by_cases hq : q = r
   ·have hq' : (q == r) = true := by simpa using hq
    have HQ : Hid (rankI k = r) := Hq.out.symm.trans hq;clear hq Hq
    go_wp2_with fail
    refine (Kr _).mono ?_;rintro e w0 ⟨rfl, rfl⟩
    go_wp2_with fail
    refine Ks.mono ?_;rintro e w1 ⟨rfl, B1, R1⟩;have HB : Hid (But (fun k => k = b) w w1) := B.trans B1;clear B1 B
    cases x with
    | true =>
     have HE : Hid (pickI (operW r) S = k) := by
      show _ = _;rw [HP.out, HS.out, if_pos ⟨HQ.out, Hx.out.symm⟩]
     clear HP HS Hx
     go_wp2
     go_ret
     exact ⟨by rw [HE.out]; rfl, HB.out, R1⟩
    | false =>
     have HE : Hid (pickI (operW r) S = pickI (ranked r ((k + 1 : Nat) : Int) (exprL.drop (k + 1))) S) := by
      show _ = _;rw [HP.out, HS.out, if_neg (fun q => by rw [← Hx.out] at q; simp at q)];rfl
     clear HP HS Hx
     go_wp2
     exact ⟨⟨k + 1, by omega, by omega, by go_num, HE, HB.out, R1⟩, by simp [intOf]; omega⟩
   ·have hq' : (q == r) = false := by simpa using hq
    have HE : Hid (pickI (operW r) S = pickI (ranked r ((k + 1 : Nat) : Int) (exprL.drop (k + 1))) S) := by
     show _ = _;rw [HP.out, HS.out, if_neg (fun e => hq (Hq.out.trans e.1))];rfl
    clear HP HS Hx hq Hq
    go_wp2_with fail
    refine (Kr _).mono ?_;rintro e w0 ⟨rfl, rfl⟩
    go_wp2
    exact ⟨⟨k + 1, by omega, by omega, by go_num, HE, B, Rk⟩, by simp [intOf]; omega⟩
  ·have hge : ¬ (k : Int) ≤ 26 := by omega
   have HE : Hid (pickI (operW r) S = 0) := by
    show _ = _;rw [HP.out, show k = 27 by omega];rfl
   clear HP
   go_wp2
   go_ret
   exact ⟨by rw [HE.out]; rfl, B, Rk⟩
end Go.Proofs.YtpofgnlkhkednaaGreatDoor
