/- The program's Parse. -/
import Derived.Test.YtgpjlocgkdlnlaaDoorSItB
import Derived.Test.YtgpjlocgkdlnlaaDoorSWk8

namespace Go.Proofs.YtgpjlocgkdlnlaaDoor
open Go.RowKit
set_option linter.unusedVariables false
set_option linter.unusedSimpArgs false

def zeroC : List Value := [.string ⟨#[]⟩, .slice none 0 0, .slice none 0 0, .slice none 0 0]
abbrev st0 (text : Key) : ES := .ok { rest := text, now := .none, lv := 0 }
/-- What Parse gives. -/
def PaE (text : Key) (w : World) (e : Ending) (w' : World) : Prop :=
  Below w.heap.size w w' ∧ ((2048 < text.length ∧ e = .returned (.tuple #[.agg zeroC.toArray, .int .i64 3])) ∨
  (text.length ≤ 2048 ∧ ∃ (x : EV) (S' : ES), Rv parseM (st0 text) x S' ∧
    ((∃ er, er ≠ 0 ∧ S' = .error er ∧ e = .returned (.tuple #[.agg zeroC.toArray, .int .i64 er])) ∨
     (∃ σ nm a1 c1 e1 a2 c2 e2 a3 c3 e3, S' = .ok σ ∧ x = pvAll (ctF nm a1 c1 e1 a2 c2 e2 a3 c3 e3) ∧ e = .returned (.tuple #[.agg ((ctF nm a1 c1 e1 a2 c2 e2 a3 c3 e3).map Fld.val).toArray, .int .i64 0]) ∧ lieAll w.heap.size w' (ctF nm a1 c1 e1 a2 c2 e2 a3 c3 e3)))))
def errI : ES → Int
  | .error e => e
  | .ok _ => 0
theorem RAt.flt {w : World} {b : Nat} {S : ES} (R : RAt w b S) : w.cell? ⟨b, 5, none⟩ = some (.int .i64 (errI S)) := by
  cases S with
  | ok σ => exact (R.box.1.cell 5).trans rfl
  | error e =>
    obtain ⟨h0, r, lv, k⟩ := R.box
    exact (k.cell 5).trans rfl
theorem errI_ok {w : World} {b : Nat} {S : ES} (R : RAt w b S) (h : (errI S != 0) = false) : ∃ σ, S = .ok σ := by
  cases S with
  | ok σ => exact ⟨σ, rfl⟩
  | error e =>
    have : e ≠ 0 := R.box.1
    have h : (e != 0) = false := h
    simp at h
    exact absurd h this
theorem errI_err {S : ES} (h : (errI S != 0) = true) : S = .error (errI S) ∧ errI S ≠ 0 := by
  cases S with
  | ok σ => simp [errI] at h
  | error e => exact ⟨rfl, by simpa using h⟩
theorem end_ok {S : ES} (h : ((nowOf S).class != 1) = false) : Rv (fun _ => endT) S () S := by
  refine Rv.of ?_
  cases S with
  | error e => rfl
  | ok σ =>
    refine Rel.of_ok ?_
    have h : (σ.now.class != 1) = false := h
    have : σ.now = .fin := by
      cases hn : σ.now <;> rw [hn] at h <;> simp [Tok.class] at h <;> rfl
    simp [endT, this]
theorem end_no {S S' : ES} (h : ((nowOf S).class != 1) = true) (g : Rv (fun _ => (failT 4 : PM Unit)) S () S') : Rv (fun _ => endT) S () S' := by
  obtain ⟨n, g⟩ := g
  have g := g n (Nat.le_refl _)
  refine Rv.of ?_
  cases S with
  | error e => exact g
  | ok σ =>
    have g := g.get_err (e := 4) rfl
    subst g
    refine Rel.of_err ?_
    have h : (σ.now.class != 1) = true := h
    have : σ.now ≠ .fin := fun q => by rw [q] at h; simp [Tok.class] at h
    simp [endT, this]
theorem below_but {wA w w' : World} {x : Nat} (h : Below wA.heap.size wA w) (B : But (fun k => k = x) w w') (hx : wA.heap.size ≤ x) : Below wA.heap.size wA w' :=
  h.trans (B.below h.size fun k q => by rw [q]; exact hx)
theorem big {n : Nat} (h : decide ((2048 : Int) < n) = true) : 2048 < n := by
  have := of_decide_eq_true h
  omega
set_option maxRecDepth 8000 in
set_option maxHeartbeats 3200000 in
theorem parse_p (text : Key) (wA : World) (g : Gl wA) : Calls Tryd.prog 4 ([.string (str text)] : List Value).toArray wA (PaE text wA) := by
  have M : Mm (fun (_ : Unit) _ => True) (fun _ => False) wA [] () wA := Mm.begin trivial (fun _ q => q.elim) (fun _ _ _ _ _ => trivial)
  refine sw_fn Tryd.func4 rfl 36 Tryd.ntmps4 rfl fun A F => ?_
  refine sw_seq (sw_reg ?_)
  refine sw_alloc F M [.string ⟨#[]⟩, .slice none 0 0, .slice none 0 0, .slice none 0 0] ⟨rfl, rfl, rfl⟩ (by kernel_rfl) rfl fun x1 A w F M => ?_
  refine sw_asg F ⟨rfl, rfl, rfl⟩ rfl rfl fun A F => ?_
  refine sw_end ?_
  show Code.wp _ _ _ _ _
  refine sw_seq (sw_seq (sw_reg ?_))
  refine sw_move F ⟨rfl, rfl, rfl⟩ rfl rfl fun A F => ?_
  refine sw_slen F ⟨rfl, rfl, rfl⟩ rfl Tryd.underlying9 rfl fun A F => ?_
  refine sw_gtr F ⟨rfl, rfl, rfl⟩ rfl rfl rfl fun A F => ?_
  refine sw_end ?_
  show Code.wp _ _ _ _ _
  refine sw_cond F rfl (fun hc => ?_) (fun hc => ?_)
  · refine sw_seq (sw_reg ?_)
    refine sw_build F _ [.string ⟨#[]⟩, .slice none 0 0, .slice none 0 0, .slice none 0 0] ⟨rfl, rfl, rfl⟩ rfl (by kernel_rfl) rfl fun A F => ?_
    refine sw_setAll F M 0 ⟨rfl, rfl, rfl⟩ rfl rfl rfl (by kernel_rfl) rfl rfl fun w M => ?_
    refine sw_asg F ⟨rfl, rfl, rfl⟩ rfl rfl fun A F => ?_
    refine sw_end ?_
    show Code.wp _ _ _ _ _
    refine wp_ret ?_
    repeat (first | refine then_ret ?_ | refine block_ret ?_)
    exact sw_ret2 F Tryd.results4 rfl rfl (M.mem.box (k := 0) rfl).1 (by kernel_rfl) (by kernel_rfl) ⟨M.but.below (Nat.le_refl _) fun _ q => q.elim, .inl ⟨big hc, rfl⟩⟩
  · have hlen : text.length ≤ 2048 := by
      have : ¬ (2048 : Int) < text.length := by simpa using hc
      omega
    refine wp_skip ?_
    show Code.wp _ _ _ _ _
    refine sw_seq (sw_reg ?_)
    refine sw_move F ⟨rfl, rfl, rfl⟩ rfl rfl fun A F => ?_
    refine sw_build F _ [.string (str text), .int .i64 0, .string ⟨#[]⟩, .int .i64 0, .int .i64 0, .int .i64 0] ⟨rfl, rfl, rfl⟩ rfl (by kernel_rfl) rfl fun A F => ?_
    refine sw_box F M [.string (str text), .int .i64 0, .string ⟨#[]⟩, .int .i64 0, .int .i64 0, .int .i64 0] ⟨rfl, rfl, rfl⟩ rfl rfl rfl fun r A w F M => ?_
    refine sw_asg F ⟨rfl, rfl, rfl⟩ rfl rfl fun A F => ?_
    refine sw_end ?_
    show Code.wp _ _ _ _ _
    obtain ⟨wR, HwR⟩ : ∃ wR, wR = w := ⟨_, rfl⟩
    have hBel : Below wA.heap.size wA wR := by rw [HwR]; exact M.but.below (Nat.le_refl _) fun _ q => q.elim
    obtain ⟨kr, hr⟩ := M.mem.box (k := 0) rfl
    obtain ⟨kx, hx⟩ := M.mem.box (k := 1) rfl
    have hxr : x1 ≠ r := M.mem.sep 0 1 _ _ r (by decide) rfl rfl rfl
    have hg5 := g.sz
    have R1 : RAt w r (st0 text) := ⟨g.below (HwR ▸ hBel), by omega, kr, hlen, trivial⟩
    have kx' : Blk wR x1 zeroC.toArray 26 := by rw [HwR]; exact kx
    clear M kr kx
    have M : Mm (RdX r) (fun k => k = r) wR [] (st0 text) w := by rw [HwR]; exact rd_begin R1
    have kn := Kn.here (F := parseM) (S := st0 text)
    have hxw : x1 < wR.heap.size := kx'.lt
    clear R1 HwR
    refine sw_seq (sw_reg ?_)
    refine sw_move F ⟨rfl, rfl, rfl⟩ rfl rfl fun A F => ?_
    refine sw_call0 (next_m r (st0 text)) F M ⟨rfl, rfl, rfl⟩ rfl rfl ?_
    rintro _ S1 A w ⟨_, h1⟩ F M
    replace kn := kn.step h1
    refine sw_end ?_
    show Code.wp _ _ _ _ _
    refine sw_seq (sw_reg ?_)
    refine sw_move F ⟨rfl, rfl, rfl⟩ rfl rfl fun A F => ?_
    refine sw_call (contract_m r S1) F M ⟨rfl, rfl, rfl⟩ rfl rfl ?_
    rintro _ _ S2 A w ⟨nm, a1, c1, e1, a2, c2, e2, a3, c3, e3, rfl, rfl, h2⟩ F M
    replace kn := kn.step h2
    refine sw_alloc F M [.string ⟨#[]⟩, .slice none 0 0, .slice none 0 0, .slice none 0 0] ⟨rfl, rfl, rfl⟩ (by kernel_rfl) rfl fun x5 A w F M => ?_
    refine sw_setAll F M 0 ⟨rfl, rfl, rfl⟩ rfl rfl rfl (by kernel_rfl) rfl rfl fun w M => ?_
    simp only [List.set_cons_zero, List.set_cons_succ] at M
    refine sw_end ?_
    show Code.wp _ _ _ _ _
    refine sw_seq (sw_seq (sw_reg ?_))
    refine sw_move F ⟨rfl, rfl, rfl⟩ rfl rfl fun A F => ?_
    refine sw_nil F ⟨rfl, rfl, rfl⟩ rfl rfl fun A F => ?_
    refine sw_fld F 1 ⟨rfl, rfl, rfl⟩ rfl (by kernel_rfl) rfl rfl fun A F => ?_
    refine sw_fld F 0 ⟨rfl, rfl, rfl⟩ rfl (by kernel_rfl) rfl rfl fun A F => ?_
    refine sw_ext F M.st.now.1 ⟨rfl, rfl, rfl⟩ rfl (by kernel_rfl) rfl fun A F => ?_
    refine sw_neq F ⟨rfl, rfl, rfl⟩ rfl rfl rfl fun A F => ?_
    refine sw_end ?_
    show Code.wp _ _ _ _ _
    refine sw_cond F rfl (fun hn => ?_) (fun hn => ?_)
    · refine sw_reg ?_
      refine sw_move F ⟨rfl, rfl, rfl⟩ rfl rfl fun A F => ?_
      refine sw_call0 (fail_m 4 (by decide) r S2) F M ⟨rfl, rfl, rfl⟩ rfl rfl ?_
      rintro _ S3 A w ⟨_, h3⟩ F M
      have hE := end_no hn h3
      refine sw_end ?_
      show Code.wp _ _ _ _ _
      replace kn := kn.step hE
      have kfin := kn.fin
      replace F := F.keep [2, 3, 4, 5] rfl
      refine sw_seq (sw_seq (sw_reg ?_))
      refine sw_move F ⟨rfl, rfl, rfl⟩ rfl rfl fun A F => ?_
      refine sw_nil F ⟨rfl, rfl, rfl⟩ rfl rfl fun A F => ?_
      refine sw_fld F 5 ⟨rfl, rfl, rfl⟩ rfl (by kernel_rfl) rfl rfl fun A F => ?_
      refine sw_ext F M.st.flt ⟨rfl, rfl, rfl⟩ rfl (by kernel_rfl) rfl fun A F => ?_
      refine sw_neq F ⟨rfl, rfl, rfl⟩ rfl rfl rfl fun A F => ?_
      refine sw_end ?_
      show Code.wp _ _ _ _ _
      have kxw := M.but.blk kx' hxr
      refine sw_cond F rfl (fun he => ?_) (fun he => ?_)
      · obtain ⟨hE1, hE2⟩ := errI_err he
        have hB := below_but hBel M.but hr
        refine sw_seq ?_
        refine wp_region_held (S := fun w' => w'.cell? ⟨r, 5, none⟩ = some (.int .i64 (errI S3))) (by kernel_rfl) ?_
        show wpAnyH _ _ _ _ _ _ _ _ w.drew
        replace M := M.drew
        have hS : w.drew.cell? ⟨r, 5, none⟩ = some (.int .i64 (errI S3)) := M.st.flt
        refine sd_build F 0 [] zeroC rfl ⟨rfl, rfl, rfl⟩ rfl (by kernel_rfl) (by kernel_rfl) (by kernel_rfl) (by kernel_rfl) (fun _ _ _ h => h) rfl hS fun A F => ?_
        refine sd_move F 1 rfl ⟨rfl, rfl, rfl⟩ rfl (by kernel_rfl) (by kernel_rfl) (by kernel_rfl) (fun _ _ _ h => h) rfl hS fun A F => ?_
        refine sd_nil F 2 rfl ⟨rfl, rfl, rfl⟩ rfl (by kernel_rfl) (by kernel_rfl) (by kernel_rfl) (fun _ _ _ h => h) rfl hS fun A F => ?_
        refine sd_fld F 3 5 rfl ⟨rfl, rfl, rfl⟩ rfl (by kernel_rfl) rfl (by kernel_rfl) (by kernel_rfl) (by kernel_rfl) (fun _ _ _ h => h) rfl hS fun A F => ?_
        refine sd_cell F 4 rfl ⟨rfl, rfl, rfl⟩ rfl (by kernel_rfl) (fun _ h => h) (by kernel_rfl) (by kernel_rfl) (by kernel_rfl) (fun _ _ _ h => h) rfl hS fun A F => ?_
        refine sd_one 5 rfl (by kernel_rfl) rfl ?_
        refine sw_setX F (us := zeroC) ⟨rfl, rfl, rfl⟩ rfl rfl (kxw.below ((Below.refl w.heap.size w).drew) kxw.lt) (by kernel_rfl) rfl rfl fun w2 B2 kx2 => ?_
        have hS2 : w2.cell? ⟨r, 5, none⟩ = some (.int .i64 (errI S3)) := (B2.cell (p := ⟨r, 5, none⟩) M.st.lt (fun q => hxr q.symm)).trans hS
        refine sw_end ⟨hS2, ?_⟩
        refine sd_one 6 rfl (by kernel_rfl) rfl ?_
        refine sw_asg F ⟨rfl, rfl, rfl⟩ rfl rfl fun A F => ?_
        refine sw_end ⟨hS2, ?_⟩
        refine wpAnyH_done (by kernel_rfl) ?_ _
        show Code.wp _ _ _ _ _
        refine wp_ret ?_
        repeat (first | refine then_ret ?_ | refine block_ret ?_)
        refine sw_ret2 F Tryd.results4 rfl rfl kx2 (by kernel_rfl) (by kernel_rfl) ⟨below_but (below_but hBel M.but hr) B2 hx, .inr ⟨hlen, _, S3, kfin, .inl ⟨errI S3, hE2, hE1, rfl⟩⟩⟩
      · obtain ⟨σ, hσ⟩ := errI_ok M.st he
        refine wp_skip ?_
        show Code.wp _ _ _ _ _
        refine sw_seq (sw_reg ?_)
        refine sw_all F M 0 ⟨rfl, rfl, rfl⟩ rfl rfl (by kernel_rfl) (by kernel_rfl) rfl fun A F => ?_
        refine sw_setX F (cs := zeroC) ⟨rfl, rfl, rfl⟩ rfl rfl kxw (by kernel_rfl) rfl rfl fun w2 B2 kx2 => ?_
        refine sw_asg F ⟨rfl, rfl, rfl⟩ rfl rfl fun A F => ?_
        refine sw_end ?_
        show Code.wp _ _ _ _ _
        refine wp_ret ?_
        have hl : lieAll wA.heap.size w2 (ctF nm a1 c1 e1 a2 c2 e2 a3 c3 e3) := ((M.mem.val (k := 1) rfl).hi (Hi.of_but B2 fun k q => by rw [q]; exact hxw)).mono hBel.size
        refine sw_ret2 F Tryd.results4 rfl rfl kx2 (by kernel_rfl) (by kernel_rfl) ⟨below_but (below_but hBel M.but hr) B2 hx, .inr ⟨hlen, _, S3, kfin, .inr ⟨σ, nm, a1, c1, e1, a2, c2, e2, a3, c3, e3, hσ, rfl, rfl, hl⟩⟩⟩
    · refine wp_skip ?_
      show Code.wp _ _ _ _ _
      obtain ⟨S3, hS3⟩ : ∃ S3, S3 = S2 := ⟨_, rfl⟩
      have hE : Rv (fun _ => endT) S2 () S3 := by rw [hS3]; exact end_ok hn
      rw [← hS3] at M
      replace kn := kn.step hE
      have kfin := kn.fin
      replace F := F.keep [2, 3, 4, 5] rfl
      refine sw_seq (sw_seq (sw_reg ?_))
      refine sw_move F ⟨rfl, rfl, rfl⟩ rfl rfl fun A F => ?_
      refine sw_nil F ⟨rfl, rfl, rfl⟩ rfl rfl fun A F => ?_
      refine sw_fld F 5 ⟨rfl, rfl, rfl⟩ rfl (by kernel_rfl) rfl rfl fun A F => ?_
      refine sw_ext F M.st.flt ⟨rfl, rfl, rfl⟩ rfl (by kernel_rfl) rfl fun A F => ?_
      refine sw_neq F ⟨rfl, rfl, rfl⟩ rfl rfl rfl fun A F => ?_
      refine sw_end ?_
      show Code.wp _ _ _ _ _
      have kxw := M.but.blk kx' hxr
      refine sw_cond F rfl (fun he => ?_) (fun he => ?_)
      · obtain ⟨hE1, hE2⟩ := errI_err he
        have hB := below_but hBel M.but hr
        refine sw_seq ?_
        refine wp_region_held (S := fun w' => w'.cell? ⟨r, 5, none⟩ = some (.int .i64 (errI S3))) (by kernel_rfl) ?_
        show wpAnyH _ _ _ _ _ _ _ _ w.drew
        replace M := M.drew
        have hS : w.drew.cell? ⟨r, 5, none⟩ = some (.int .i64 (errI S3)) := M.st.flt
        refine sd_build F 0 [] zeroC rfl ⟨rfl, rfl, rfl⟩ rfl (by kernel_rfl) (by kernel_rfl) (by kernel_rfl) (by kernel_rfl) (fun _ _ _ h => h) rfl hS fun A F => ?_
        refine sd_move F 1 rfl ⟨rfl, rfl, rfl⟩ rfl (by kernel_rfl) (by kernel_rfl) (by kernel_rfl) (fun _ _ _ h => h) rfl hS fun A F => ?_
        refine sd_nil F 2 rfl ⟨rfl, rfl, rfl⟩ rfl (by kernel_rfl) (by kernel_rfl) (by kernel_rfl) (fun _ _ _ h => h) rfl hS fun A F => ?_
        refine sd_fld F 3 5 rfl ⟨rfl, rfl, rfl⟩ rfl (by kernel_rfl) rfl (by kernel_rfl) (by kernel_rfl) (by kernel_rfl) (fun _ _ _ h => h) rfl hS fun A F => ?_
        refine sd_cell F 4 rfl ⟨rfl, rfl, rfl⟩ rfl (by kernel_rfl) (fun _ h => h) (by kernel_rfl) (by kernel_rfl) (by kernel_rfl) (fun _ _ _ h => h) rfl hS fun A F => ?_
        refine sd_one 5 rfl (by kernel_rfl) rfl ?_
        refine sw_setX F (us := zeroC) ⟨rfl, rfl, rfl⟩ rfl rfl (kxw.below ((Below.refl w.heap.size w).drew) kxw.lt) (by kernel_rfl) rfl rfl fun w2 B2 kx2 => ?_
        have hS2 : w2.cell? ⟨r, 5, none⟩ = some (.int .i64 (errI S3)) := (B2.cell (p := ⟨r, 5, none⟩) M.st.lt (fun q => hxr q.symm)).trans hS
        refine sw_end ⟨hS2, ?_⟩
        refine sd_one 6 rfl (by kernel_rfl) rfl ?_
        refine sw_asg F ⟨rfl, rfl, rfl⟩ rfl rfl fun A F => ?_
        refine sw_end ⟨hS2, ?_⟩
        refine wpAnyH_done (by kernel_rfl) ?_ _
        show Code.wp _ _ _ _ _
        refine wp_ret ?_
        repeat (first | refine then_ret ?_ | refine block_ret ?_)
        refine sw_ret2 F Tryd.results4 rfl rfl kx2 (by kernel_rfl) (by kernel_rfl) ⟨below_but (below_but hBel M.but hr) B2 hx, .inr ⟨hlen, _, S3, kfin, .inl ⟨errI S3, hE2, hE1, rfl⟩⟩⟩
      · obtain ⟨σ, hσ⟩ := errI_ok M.st he
        refine wp_skip ?_
        show Code.wp _ _ _ _ _
        refine sw_seq (sw_reg ?_)
        refine sw_all F M 0 ⟨rfl, rfl, rfl⟩ rfl rfl (by kernel_rfl) (by kernel_rfl) rfl fun A F => ?_
        refine sw_setX F (cs := zeroC) ⟨rfl, rfl, rfl⟩ rfl rfl kxw (by kernel_rfl) rfl rfl fun w2 B2 kx2 => ?_
        refine sw_asg F ⟨rfl, rfl, rfl⟩ rfl rfl fun A F => ?_
        refine sw_end ?_
        show Code.wp _ _ _ _ _
        refine wp_ret ?_
        have hl : lieAll wA.heap.size w2 (ctF nm a1 c1 e1 a2 c2 e2 a3 c3 e3) := ((M.mem.val (k := 1) rfl).hi (Hi.of_but B2 fun k q => by rw [q]; exact hxw)).mono hBel.size
        refine sw_ret2 F Tryd.results4 rfl rfl kx2 (by kernel_rfl) (by kernel_rfl) ⟨below_but (below_but hBel M.but hr) B2 hx, .inr ⟨hlen, _, S3, kfin, .inr ⟨σ, nm, a1, c1, e1, a2, c2, e2, a3, c3, e3, hσ, rfl, rfl, hl⟩⟩⟩
end Go.Proofs.YtgpjlocgkdlnlaaDoor

namespace Go.Proofs.YtgpjlocgkdlnlaaDoor
open Go.RowKit
set_option linter.unusedVariables false
set_option linter.unusedSimpArgs false

abbrev C4 := Value × Value × Value × Value
def tokK : Tok → Int
  | .none => 0
  | .fin => 101
  | .name _ => 110
  | .num _ => 48
  | .fixed s => if wordL.contains s then 119 else 115
/-- The token's text. -/
def tokT : Tok → Key → Prop
  | .name s, tx => tx = s
  | .fixed s, tx => tx = s ∧ (wordL.contains s || signL.contains s) = true
  | _, _ => True
def pC (text : Key) (at_ : Nat) (kd : Int) (tx : Key) (n lv e : Int) (c : C4) : Array Value := #[.string (str text), .int .i64 at_, .int .u8 kd, .string (str tx), .int .i64 n, .int .i64 lv, .int .i64 e, c.1, c.2.1, c.2.2.1, c.2.2.2]
def PBox (text : Key) (c : C4) (w : World) (b : Nat) : ES → Prop
  | .ok σ => ∃ at_ tx, (at_ ≤ text.length ∧ text.length ≤ 2048) ∧ text.drop at_ = σ.rest ∧ Blk w b (pC text at_ (tokK σ.now) tx σ.now.n σ.lv 0 c) 43 ∧ tokT σ.now tx ∧ Sound σ ∧ σ.lv ≤ 32 ∧ (mu σ : Int) - 5000 ≤ σ.lv
  | .error e => e ≠ 0 ∧ ∃ at_ kd tx n lv, Blk w b (pC text at_ kd tx n lv e c) 43
theorem PBox.lt {text : Key} {c : C4} {w : World} {b : Nat} : ∀ {S : ES}, PBox text c w b S → b < w.heap.size
  | .ok σ, ⟨_, _, _, _, k, _⟩ => k.lt
  | .error e, ⟨_, _, _, _, _, _, k⟩ => k.lt
theorem PBox.but {text : Key} {c : C4} {w w' : World} {b : Nat} {T : Nat → Prop} (B : But T w w') (hT : ¬ T b) : ∀ {S : ES}, PBox text c w b S → PBox text c w' b S
  | .ok σ, ⟨a, t, h1, h2, k, h3⟩ => ⟨a, t, h1, h2, B.blk k hT, h3⟩
  | .error e, ⟨h, a, kd, t, n, lv, k⟩ => ⟨h, a, kd, t, n, lv, B.blk k hT⟩
abbrev PdX (text : Key) (c : C4) (b : Nat) : ES → World → Prop := fun S w => PBox text c w b S
theorem pd_begin {text : Key} {c : C4} {w : World} {b : Nat} {S : ES} (R : PBox text c w b S) : Mm (PdX text c b) (fun k => k = b) w [] S w :=
  Mm.begin R (fun k q => by subst q; exact R.lt) fun s u u' hb x => by
    have h1 := R.lt
    exact x.but (T := fun k => w.heap.size ≤ k) ⟨hb.os, hb.tape, hb.output, hb.size, fun k _ q => hb.block k (by omega)⟩ (by omega)
/-- What its cells say. -/
def PRel : ES → Int → Key → Int → Int → Prop
  | .ok σ, kd, tx, n, e => kd = tokK σ.now ∧ tokT σ.now tx ∧ n = σ.now.n ∧ e = 0
  | .error er, _, _, _, e => e = er ∧ er ≠ 0
theorem PBox.cells {text : Key} {c : C4} {w : World} {b : Nat} {S : ES} (R : PBox text c w b S) : ∃ at_ kd tx n lv e, Blk w b (pC text at_ kd tx n lv e c) 43 ∧ PRel S kd tx n e := by
  cases S with
  | ok σ =>
    obtain ⟨a, t, h1, h2, k, h3, _⟩ := R
    exact ⟨a, _, t, _, _, _, k, rfl, h3, rfl, rfl⟩
  | error er =>
    obtain ⟨h, a, kd, t, n, lv, k⟩ := R
    exact ⟨a, kd, t, n, lv, er, k, rfl, h⟩
theorem rv_perr {text : Key} {c : C4} {S' : ES} {w : World} {b : Nat} (R : PBox text c w b S') : S' ≠ .error 0 := by
  intro e
  subst e
  exact R.1 rfl
end Go.Proofs.YtgpjlocgkdlnlaaDoor
