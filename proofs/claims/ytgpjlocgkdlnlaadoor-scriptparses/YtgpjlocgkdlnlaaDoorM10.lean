/- What parsing is: a state, or the first fault (no program). -/
import Derived.Test.YtgpjlocgkdlnlaaDoorM09

namespace Go.Proofs.YtgpjlocgkdlnlaaDoor
open Go.RowKit
set_option linter.unusedVariables false
set_option linter.unusedSimpArgs false

structure St where
  rest : Key
  now : Tok
  lv : Int
abbrev ES := Except Int St
def Tok.ok : Tok → Prop
  | .num n => 0 ≤ n ∧ n ≤ 1099511627775
  | _ => True
def Sound (σ : St) : Prop := σ.rest.length ≤ 2048 ∧ σ.now.ok
abbrev PM (α : Type) := St → Except Int (α × St)
def pur {α : Type} (x : α) : PM α := fun σ => .ok (x, σ)
def bnd {α β : Type} (F : PM α) (G : α → PM β) : PM β := fun σ =>
  match F σ with
  | .error e => .error e
  | .ok (x, τ) => G x τ
/-- From a state, or a fault, to another one, with what was read. -/
def Rel {α : Type} (F : PM α) (S : ES) (x : α) (S' : ES) : Prop :=
  match S with
  | .error e => S' = .error e
  | .ok σ =>
    match F σ with
    | .error e => S' = .error e
    | .ok (y, τ) => x = y ∧ S' = .ok τ
theorem Rel.pur {α : Type} (x : α) (S : ES) : Rel (pur x) S x S := by
  cases S with
  | error e => rfl
  | ok σ => exact ⟨rfl, rfl⟩
theorem Rel.bind {α β : Type} {F : PM α} {G : α → PM β} {S S1 S2 : ES} {x : α} {y : β} (h : Rel F S x S1) (g : Rel (G x) S1 y S2) : Rel (bnd F G) S y S2 := by
  cases S with
  | error e =>
    have h : S1 = .error e := h
    subst h
    exact g
  | ok σ =>
    unfold Rel at h ⊢
    simp only [bnd] at h ⊢
    cases hF : F σ with
    | error e =>
      rw [hF] at h
      simp only at h ⊢
      subst h
      exact g
    | ok p =>
      obtain ⟨z, τ⟩ := p
      rw [hF] at h
      simp only at h ⊢
      obtain ⟨rfl, rfl⟩ := h
      exact g
theorem Rel.err {α : Type} {F : PM α} {e : Int} {x : α} : Rel F (.error e) x (.error e) := rfl
theorem Rel.of_err {α : Type} {F : PM α} {σ : St} {e : Int} {x : α} (h : F σ = .error e) : Rel F (.ok σ) x (.error e) := by
  unfold Rel; simp only [h]
theorem Rel.of_ok {α : Type} {F : PM α} {σ τ : St} {x : α} (h : F σ = .ok (x, τ)) : Rel F (.ok σ) x (.ok τ) := by
  unfold Rel; simp only [h, and_self]
theorem Rel.get_err {α : Type} {F : PM α} {σ : St} {S : ES} {e : Int} {x : α} (g : Rel F (.ok σ) x S) (h : F σ = .error e) : S = .error e := by
  unfold Rel at g; simpa only [h] using g
theorem Rel.get_ok {α : Type} {F : PM α} {σ τ : St} {S : ES} {x y : α} (g : Rel F (.ok σ) x S) (h : F σ = .ok (y, τ)) : x = y ∧ S = .ok τ := by
  unfold Rel at g; simpa only [h] using g
theorem Rel.to {α : Type} {F F' : PM α} {S S' : ES} {x : α} (h : Rel F S x S') (e : F = F') : Rel F' S x S' := e ▸ h
/-- Does that word or sign stand there? -/
def stands (s : Key) : ES → Bool
  | .error _ => false
  | .ok σ => decide (σ.now = .fixed s)
/-- In order, and not before that sign? -/
def going (s : Key) : ES → Bool
  | .error _ => false
  | .ok σ => !decide (σ.now = .fixed s)
/-- Which of these words stands there: 0: none. -/
def pickI : List (Int × Key) → ES → Int
  | [], _ => 0
  | (k, s) :: r, S => if stands s S then k else pickI r S
/-- The fault of a token that can't stand there. -/
def errT (σ : St) : Int := if σ.now = .fin then 1 else 6
def wrongT {α : Type} : PM α := fun σ => .error (errT σ)
def failT {α : Type} (e : Int) : PM α := fun _ => .error e
def nextT : PM Unit := fun σ =>
  match cutT (gap false σ.rest) with
  | (.none, _) => .error 6
  | (t, r) => .ok ((), { σ with now := t, rest := r })
def isT (s : Key) : PM Bool := fun σ => .ok (decide (σ.now = .fixed s), σ)
theorem rel_is (s : Key) (S : ES) : Rel (isT s) S (stands s S) S := by
  cases S with
  | error e => rfl
  | ok σ => exact ⟨rfl, rfl⟩
def pickT (l : List (Int × Key)) : PM Int := fun σ => .ok (pickI l (.ok σ), σ)
theorem rel_pick (l : List (Int × Key)) (S : ES) : Rel (pickT l) S (pickI l S) S := by
  cases S with
  | error e => rfl
  | ok σ => exact ⟨rfl, rfl⟩
def takeT (s : Key) : PM Unit := fun σ => if σ.now = .fixed s then nextT σ else .error (errT σ)
def deeperT : PM Unit := fun σ => if σ.lv = 32 then .error 7 else .ok ((), { σ with lv := wrap64 (σ.lv + 1) })
def upT : PM Unit := fun σ => .ok ((), { σ with lv := wrap64 (σ.lv - 1) })
def openT (s : Key) : PM Unit := bnd (isT s) fun c => bnd (if c then deeperT else pur ()) fun _ => takeT s
def shutT (s : Key) : PM Unit := bnd (takeT s) fun _ => upT
def roomT (n m : Int) : PM Unit := if m ≤ n then failT 3 else pur ()
def nameT : PM Key := fun σ =>
  match σ.now with
  | .name s => bnd nextT (fun _ => pur s) σ
  | _ => .error (errT σ)
theorem v10_def (s : Key) : val10 s = v10 0 s := rfl
theorem numberOf_ok (s : Key) (hd : ∀ c ∈ s, isD c = true) : (numberOf s).ok := by
  unfold numberOf
  split
  · trivial
  · split
    · trivial
    · rename_i h
      refine ⟨?_, by omega⟩
      rw [v10_def]
      exact v10_ge s 0 (Int.le_refl _) hd
theorem spanN_mem (f : UInt8 → Bool) : ∀ (s : Key), ∀ c ∈ s.take (spanN f s), f c = true
  | [], c, hc => by simp at hc
  | d :: r, c, hc => by
    by_cases hd : f d = true
    · have ih := spanN_mem f r
      simp only [spanN, hd, if_true, List.take_succ_cons] at hc
      rcases List.mem_cons.1 hc with rfl | hc
      · exact hd
      · exact ih c hc
    · simp [spanN, hd] at hc
theorem cutT_ok (s : Key) : (cutT s).1.ok := by
  cases s with
  | nil => trivial
  | cons c r =>
    rw [cutT]
    split
    · unfold wordOf
      split
      · trivial
      · split <;> trivial
    · split
      · exact numberOf_ok _ (spanN_mem isD _)
      · unfold signOf
        split <;> trivial
theorem signOf_len (s : Key) : (signOf s).2.length ≤ s.length := by
  unfold signOf
  split
  · simp
  · simp
theorem cutT_len (s : Key) : (cutT s).2.length ≤ s.length := by
  cases s with
  | nil => simp [cutT]
  | cons c r =>
    rw [cutT]
    split
    · simp
    · split
      · simp
      · exact signOf_len _
/-- So much is still to be read, sixteenfold. -/
def mu (σ : St) : Nat := σ.rest.length + (if σ.now = .fin ∨ σ.now = .none then 0 else 1)
def need : ES → Nat
  | .error _ => 0
  | .ok σ => 16 * mu σ
theorem spanN_pos (f : UInt8 → Bool) (c : UInt8) (r : Key) (h : f c = true) : 1 ≤ spanN f (c :: r) := by simp [spanN, h]
theorem sign_len : ∀ g ∈ signL, 1 ≤ g.length := by decide
/-- A token that is there takes a byte at least. -/
theorem cutT_less (s : Key) (h1 : (cutT s).1 ≠ .fin) (h2 : (cutT s).1 ≠ .none) : (cutT s).2.length < s.length := by
  cases s with
  | nil => exact absurd rfl h1
  | cons c r =>
    rw [cutT] at h1 h2 ⊢
    split
    · rename_i hc
      have := spanN_pos goes c r (by simp [goes, hc])
      simp
      omega
    · split
      · rename_i hc
        have := spanN_pos isD c r hc
        simp
        omega
      · rename_i hl hd
        rw [if_neg hl, if_neg hd] at h2
        unfold signOf at h2 ⊢
        cases hf : signL.find? (fun g => decide ((c :: r).take g.length = g)) with
        | none => rw [hf] at h2; exact absurd rfl h2
        | some g =>
          have := sign_len g (List.mem_of_find?_eq_some hf)
          simp
          omega
theorem mu_next {σ τ : St} (h : nextT σ = .ok ((), τ)) : mu τ ≤ σ.rest.length := by
  unfold nextT at h
  have h2 := cutT_less (gap false σ.rest)
  have h3 := gap_len false σ.rest
  cases hc : cutT (gap false σ.rest) with
  | mk t r =>
    rw [hc] at h h2
    have hl : r.length ≤ σ.rest.length := by
      have : (cutT (gap false σ.rest)).2.length ≤ (gap false σ.rest).length := cutT_len _
      rw [hc] at this
      simp only at this
      omega
    cases t with
    | none => cases h
    | fin =>
      injection h with h
      injection h with _ h
      subst h
      simp [mu]; exact hl
    | name s =>
      injection h with h
      injection h with _ h
      subst h
      have := h2 (by simp) (by simp)
      simp [mu] at this ⊢; omega
    | num s =>
      injection h with h
      injection h with _ h
      subst h
      have := h2 (by simp) (by simp)
      simp [mu] at this ⊢; omega
    | fixed s =>
      injection h with h
      injection h with _ h
      subst h
      have := h2 (by simp) (by simp)
      simp [mu] at this ⊢; omega
theorem need_next {S S' : ES} (h : Rel nextT S () S') : need S' ≤ need S := by
  cases S with
  | error e =>
    have h : S' = .error e := h
    subst h
    exact Nat.le_refl _
  | ok σ =>
    cases hn : nextT σ with
    | error e => rw [h.get_err hn]; exact Nat.zero_le _
    | ok p =>
      obtain ⟨⟨⟩, τ⟩ := p
      rw [(h.get_ok hn).2]
      have := mu_next hn
      show 16 * mu τ ≤ 16 * mu σ
      have : σ.rest.length ≤ mu σ := by unfold mu; omega
      omega
/-- A token stands there. -/
def Here : ES → Prop
  | .error _ => False
  | .ok σ => σ.now ≠ .fin ∧ σ.now ≠ .none
theorem Here.of_stands {s : Key} {S : ES} (h : stands s S = true) : Here S := by
  cases S with
  | error e => cases h
  | ok σ =>
    have : σ.now = .fixed s := of_decide_eq_true h
    exact ⟨by rw [this]; simp, by rw [this]; simp⟩
theorem Here.of_pick {l : List (Int × Key)} {S : ES} (h : pickI l S ≠ 0) : Here S := by
  induction l with
  | nil => exact absurd rfl h
  | cons p r ih =>
    obtain ⟨k, s⟩ := p
    rw [pickI] at h
    by_cases hs : stands s S = true
    · exact Here.of_stands hs
    · rw [if_neg hs] at h
      exact ih h
theorem need_here {S S' : ES} (h : Rel nextT S () S') (hh : Here S) : need S' + 16 ≤ need S := by
  cases S with
  | error e => exact hh.elim
  | ok σ =>
    have hm : mu σ = σ.rest.length + 1 := by unfold mu; rw [if_neg (by rintro (q | q); exact hh.1 q; exact hh.2 q)]
    cases hn : nextT σ with
    | error e => rw [h.get_err hn]; show 0 + 16 ≤ 16 * mu σ; omega
    | ok p =>
      obtain ⟨⟨⟩, τ⟩ := p
      rw [(h.get_ok hn).2]
      have := mu_next hn
      show 16 * mu τ + 16 ≤ 16 * mu σ
      omega
theorem need_take {s : Key} {S S' : ES} (h : Rel (takeT s) S () S') : need S' ≤ need S ∧ (stands s S = true → need S' + 16 ≤ need S) := by
  cases S with
  | error e =>
    have h : S' = .error e := h
    subst h
    exact ⟨Nat.le_refl _, fun q => by cases q⟩
  | ok σ =>
    by_cases hs : σ.now = .fixed s
    · have e : takeT s σ = nextT σ := if_pos hs
      have h' : Rel nextT (.ok σ) () S' := by unfold Rel at h ⊢; simpa only [e] using h
      exact ⟨need_next h', fun q => need_here h' (Here.of_stands q)⟩
    · have e : takeT s σ = .error (errT σ) := if_neg hs
      rw [h.get_err e]
      exact ⟨Nat.zero_le _, fun q => absurd (of_decide_eq_true q) hs⟩
theorem need_lv {S S' : ES} {σ : St} (h : S = .ok σ) {lv : Int} (h' : S' = .ok { σ with lv := lv }) : need S' = need S := by
  subst h; subst h'; rfl
theorem need_deeper {S S' : ES} (h : Rel deeperT S () S') : need S' ≤ need S := by
  cases S with
  | error e =>
    have h : S' = .error e := h
    subst h; exact Nat.le_refl _
  | ok σ =>
    by_cases h32 : σ.lv = 32
    · rw [h.get_err (if_pos h32)]; exact Nat.zero_le _
    · rw [(h.get_ok (if_neg h32)).2]; exact Nat.le_refl _
theorem need_up {S S' : ES} (h : Rel upT S () S') : need S' ≤ need S := by
  cases S with
  | error e =>
    have h : S' = .error e := h
    subst h; exact Nat.le_refl _
  | ok σ => rw [(h.get_ok rfl).2]; exact Nat.le_refl _
end Go.Proofs.YtgpjlocgkdlnlaaDoor

namespace Go.Proofs.YtgpjlocgkdlnlaaDoor
open Go.RowKit
set_option linter.unusedVariables false
set_option linter.unusedSimpArgs false

theorem Gl.but {w w' : World} {b : Nat} (h : Gl w) (hb : But (fun k => k = b) w w') (h5 : 5 ≤ b) : Gl w' :=
  ⟨Nat.le_trans h.sz hb.size, fun g hg j v hv => by
    rw [hb.cell (p := ⟨g, 0 + j, none⟩) (Nat.lt_of_lt_of_le (by show g < 5; omega) h.sz) (by show ¬ g = b; omega)]; exact h.tab g hg j v hv⟩
/-- The reader in its box. -/
def rcells (r : Key) (t : Tok) (lv e : Int) : Array Value := #[.string (str r), .int .i64 t.class, .string (str t.text), .int .i64 t.n, .int .i64 lv, .int .i64 e]
def RBox (w : World) (b : Nat) : ES → Prop
  | .ok σ => Blk w b (rcells σ.rest σ.now σ.lv 0) 36 ∧ Sound σ
  | .error e => e ≠ 0 ∧ ∃ r lv, Blk w b (rcells r .none lv e) 36
structure RAt (w : World) (b : Nat) (S : ES) : Prop where
  gl : Gl w
  b5 : 5 ≤ b
  box : RBox w b S
theorem RBox.lt {w : World} {b : Nat} : ∀ {S : ES}, RBox w b S → b < w.heap.size
  | .ok σ, h => h.1.lt
  | .error e, ⟨_, r, lv, h⟩ => h.lt
theorem RAt.lt {w : World} {b : Nat} {S : ES} (h : RAt w b S) : b < w.heap.size := h.box.lt
theorem RBox.below {w w' : World} {b : Nat} (hb : Below w.heap.size w w') : ∀ {S : ES}, RBox w b S → RBox w' b S
  | .ok σ, h => ⟨h.1.below hb h.1.lt, h.2⟩
  | .error e, ⟨h, r, lv, k⟩ => ⟨h, r, lv, k.below hb k.lt⟩
theorem RAt.below {w w' : World} {b : Nat} {S : ES} (h : RAt w b S) (hb : Below w.heap.size w w') : RAt w' b S := ⟨h.gl.below hb, h.b5, h.box.below hb⟩
theorem Blk.six {w : World} {b : Nat} {x y z u v s : Value} {t : TypeId} (k : Blk w b #[x, y, z, u, v, s] t) : b < w.heap.size ∧ (w.cell? ⟨b, 0, none⟩ = some x ∧ w.cell? ⟨b, 1, none⟩ = some y ∧ w.cell? ⟨b, 2, none⟩ = some z ∧ w.cell? ⟨b, 3, none⟩ = some u ∧ w.cell? ⟨b, 4, none⟩ = some v ∧ w.cell? ⟨b, 5, none⟩ = some s) ∧ w.frozen? ⟨b, 0, none⟩ = false ∧ w.frozen? ⟨b, 1, none⟩ = false ∧ w.frozen? ⟨b, 2, none⟩ = false ∧ w.frozen? ⟨b, 3, none⟩ = false ∧ w.frozen? ⟨b, 4, none⟩ = false ∧ w.frozen? ⟨b, 5, none⟩ = false :=
  ⟨k.lt, ⟨(k.cell 0).trans rfl, (k.cell 1).trans rfl, (k.cell 2).trans rfl, (k.cell 3).trans rfl, (k.cell 4).trans rfl, (k.cell 5).trans rfl⟩, k.frozen 0, k.frozen 1, k.frozen 2, k.frozen 3, k.frozen 4, k.frozen 5⟩
/-- What a function of the reader's does. -/
def CtU (f : FuncId) (vs : List Value) (F : PM Unit) : Prop := ∀ b S w, RAt w b S → Calls Tryd.prog f (.pointer (some ⟨b, 0, none⟩) :: vs).toArray w fun e w' => e = .returned (.tuple #[]) ∧ But (fun k => k = b) w w' ∧ ∃ S', RAt w' b S' ∧ Rel F S () S'
def CtV {α : Type} (f : FuncId) (vs : List Value) (enc : α → Value) (F : PM α) : Prop := ∀ b S w, RAt w b S → Calls Tryd.prog f (.pointer (some ⟨b, 0, none⟩) :: vs).toArray w fun e w' => ∃ x, e = .returned (enc x) ∧ But (fun k => k = b) w w' ∧ ∃ S', RAt w' b S' ∧ Rel F S x S'
theorem bset {w u : World} {b i : Nat} {v : Value} (h : But (fun k => k = b) w u) : But (fun k => k = b) w (u.setCell ⟨b, i, none⟩ v) := h.trans (But.set (S := fun k => k = b) u (p := ⟨b, i, none⟩) rfl v)
theorem ret_unit {fn : Func} {R : Ending → World → Prop} {A : Act} {w : World} (hres : fn.results = #[]) (hd : A.defers = []) (h : R (.returned (.tuple #[])) w) : bodyPost Tryd.prog fn R .ret A w := bodyPost_ret (v := .tuple #[]) (by simp [results, hres]) hd h
theorem rat {w w' : World} {b : Nat} {S : ES} (g : Gl w) (h5 : 5 ≤ b) (hb : But (fun k => k = b) w w') (x : RBox w' b S) : RAt w' b S := ⟨g.but hb h5, h5, x⟩
set_option maxHeartbeats 1600000 in
theorem fail_u (er : Int) (he : er ≠ 0) : CtU 9 [.int .i64 er] (failT er) := by
  intro b S w h
  obtain ⟨g, h5, hx⟩ := h
  have B0 := But.refl (fun k => k = b) w
  cases S with
  | ok σ =>
    obtain ⟨k, hr⟩ := hx
    unfold rcells at k
    obtain ⟨zb, ⟨c0, c1, c2, c3, c4, c5⟩, f0, f1, f2, f3, f4, f5⟩ := k.six
    have HN : Hid (er ≠ 0) := he
    clear he
    go_enter Tryd.func9, Tryd.ntmps9
    go_wp2
    go_end0
    exact ⟨rfl, bset (bset (bset (bset B0))), .error er, rat g h5 (bset (bset (bset (bset B0)))) ⟨HN.out, σ.rest, σ.lv, (((k.set 5 _).set 1 _).set 2 _).set 3 _⟩, rfl⟩
  | error e0 =>
    obtain ⟨h0, r, lv, k⟩ := hx
    unfold rcells at k
    obtain ⟨zb, ⟨c0, c1, c2, c3, c4, c5⟩, f0, f1, f2, f3, f4, f5⟩ := k.six
    have hne : (e0 == 0) = false := by simpa using h0
    go_enter Tryd.func9, Tryd.ntmps9
    go_wp2
    go_end0
    exact ⟨rfl, bset (bset (bset B0)), .error e0, rat g h5 (bset (bset (bset B0))) ⟨h0, r, lv, ((k.set 1 _).set 2 _).set 3 _⟩, rfl⟩
set_option maxHeartbeats 1600000 in
theorem wrong_u : CtU 19 [] wrongT := by
  intro b S w h
  have K := fun (er : Int) (he : er ≠ 0) => fail_u er he b S
  obtain ⟨g, h5, hx⟩ := h
  cases S with
  | ok σ =>
    have R : RAt w b (.ok σ) := ⟨g, h5, hx⟩
    obtain ⟨k, hr⟩ := hx
    unfold rcells at k
    obtain ⟨zb, ⟨c0, c1, c2, c3, c4, c5⟩, f0, f1, f2, f3, f4, f5⟩ := k.six
    by_cases hf : σ.now = .fin
    · have hc : σ.now.class = 1 := by rw [hf]; rfl
      have HE : Hid (errT σ = 1) := by show _ = _; simp [errT, hf]
      rw [hc] at c1
      go_enter Tryd.func19, Tryd.ntmps19
      go_wp2_with fail
      refine (K 1 (by omega) w R).mono ?_
      rintro e w1 ⟨rfl, B1, S1, R1, h1⟩
      go_wp2
      exact ret_unit Tryd.results19 rfl ⟨rfl, B1, S1, R1, by show S1 = .error (errT σ); rw [HE.out]; exact h1⟩
    · have hc : (σ.now.class == 1) = false := by cases h : σ.now <;> simp_all [Tok.class]
      have HE : Hid (errT σ = 6) := by show _ = _; simp [errT, hf]
      go_enter Tryd.func19, Tryd.ntmps19
      go_wp2_with fail
      refine (K 6 (by omega) w R).mono ?_
      rintro e w1 ⟨rfl, B1, S1, R1, h1⟩
      go_wp2
      go_end0
      exact ⟨rfl, B1, S1, R1, by show S1 = .error (errT σ); rw [HE.out]; exact h1⟩
  | error e0 =>
    have R : RAt w b (.error e0) := ⟨g, h5, hx⟩
    obtain ⟨h0, r, lv, k⟩ := hx
    unfold rcells at k
    obtain ⟨zb, ⟨c0, c1, c2, c3, c4, c5⟩, f0, f1, f2, f3, f4, f5⟩ := k.six
    have c1' : w.cell? ⟨b, 1, none⟩ = some (.int .i64 0) := c1
    clear c1
    go_enter Tryd.func19, Tryd.ntmps19
    go_wp2_with fail
    refine (K 6 (by omega) w R).mono ?_
    rintro e w1 ⟨rfl, B1, S1, R1, h1⟩
    go_wp2
    go_end0
    exact ⟨rfl, B1, S1, R1, h1⟩
set_option maxRecDepth 4000 in
set_option maxHeartbeats 1600000 in
theorem next_u : CtU 7 [] nextT := by
  intro b S w h
  obtain ⟨g, h5, hx⟩ := h
  cases S with
  | ok σ =>
    obtain ⟨k, hr⟩ := hx
    unfold rcells at k
    obtain ⟨zb, ⟨c0, c1, c2, c3, c4, c5⟩, f0, f1, f2, f3, f4, f5⟩ := k.six
    have K1 := fun w' => gap_any σ.rest w' hr.1
    have hgl : (gap false σ.rest).length ≤ 2048 := Nat.le_trans (gap_len _ _) hr.1
    obtain ⟨s1, Hs1⟩ : ∃ s1, Hid (s1 = gap false σ.rest) := ⟨_, rfl⟩
    rw [← Hs1.out] at K1 hgl
    go_enter Tryd.func7, Tryd.ntmps7
    go_wp2_with fail
    refine (K1 _).mono ?_
    rintro e w1 ⟨rfl, b1⟩
    have g1 := g.below b1
    have k1 := k.below b1 k.lt
    go_wp2_with fail
    refine (cut_any s1 w1 hgl g1).mono ?_
    rintro e w2 ⟨he, b2⟩
    have he : e = .returned (.tuple #[.agg #[.int .i64 (cutT s1).1.class, .string (str (cutT s1).1.text), .int .i64 (cutT s1).1.n], .string (str (cutT s1).2)]) := he
    subst he
    have hcl : (cutT s1).2.length ≤ 2048 := Nat.le_trans (cutT_len s1) hgl
    have Hok : Hid ((cutT s1).1.ok) := cutT_ok s1
    have HN : Hid (∀ τ, nextT σ = τ ↔ (match cutT s1 with | (.none, _) => .error 6 | (t, r) => .ok ((), { σ with now := t, rest := r })) = τ) := by
      intro τ; rw [Hs1.out]; rfl
    clear Hs1
    generalize cutT s1 = p at *
    obtain ⟨t, r⟩ := p
    simp only at hcl
    have k2 := k1.below b2 k1.lt
    have B2 : But (fun k => k = b) w w2 := But.of_below (b1.trans (b2.mono b1.size))
    clear c0 c1 c2 c3 c4 c5 f0 f1 f2 f3 f4 f5 zb
    obtain ⟨zb, ⟨c0, c1, c2, c3, c4, c5⟩, f0, f1, f2, f3, f4, f5⟩ := k2.six
    by_cases ht : t = .none
    · subst ht
      have HN' : Hid (nextT σ = .error 6) := (HN.out _).2 rfl
      clear HN
      go_wp2_with fail
      have B3 := bset (i := 0) (v := .string (str r)) (bset (i := 3) (v := .int .i64 Tok.none.n) (bset (i := 2) (v := .string (str Tok.none.text)) (bset (i := 1) (v := .int .i64 Tok.none.class) B2)))
      have R3 : RAt _ b (.ok { rest := r, now := .none, lv := σ.lv }) := rat g h5 B3 ⟨(((k2.set 1 _).set 2 _).set 3 _).set 0 _, hcl, Hok.out⟩
      refine (wrong_u b _ _ R3).mono ?_
      rintro e w3 ⟨rfl, B4, S4, R4, h4⟩
      go_wp2
      go_end0
      have h4 := h4.get_err (e := 6) rfl
      subst h4
      exact ⟨rfl, B3.trans B4, _, R4, Rel.of_err HN'.out⟩
    · have htc : (t.class == 0) = false := by cases t <;> simp_all [Tok.class]
      have HN' : Hid (nextT σ = .ok ((), { σ with now := t, rest := r })) := (HN.out _).2 (by cases t <;> first | exact absurd rfl ht | rfl)
      clear HN
      go_wp2
      have B3 := bset (i := 0) (v := .string (str r)) (bset (i := 3) (v := .int .i64 t.n) (bset (i := 2) (v := .string (str t.text)) (bset (i := 1) (v := .int .i64 t.class) B2)))
      go_end0
      exact ⟨rfl, B3, .ok { σ with now := t, rest := r }, rat g h5 B3 ⟨(((k2.set 1 _).set 2 _).set 3 _).set 0 _, hcl, Hok.out⟩, Rel.of_ok HN'.out⟩
  | error e0 =>
    obtain ⟨h0, r, lv, k⟩ := hx
    have R : RBox w b (.error e0) := ⟨h0, r, lv, k⟩
    unfold rcells at k
    obtain ⟨zb, ⟨c0, c1, c2, c3, c4, c5⟩, f0, f1, f2, f3, f4, f5⟩ := k.six
    have hne : (e0 == 0) = false := by simpa using h0
    go_enter Tryd.func7, Tryd.ntmps7
    go_wp2
    exact ret_unit Tryd.results7 rfl ⟨rfl, But.refl _ _, .error e0, ⟨g, h5, R⟩, rfl⟩
end Go.Proofs.YtgpjlocgkdlnlaaDoor
