import Derived.Test.YtpofgnlkhkednaaGreatDoorSItB
import Derived.Test.YtpofgnlkhkednaaGreatDoorSWz
namespace Go.Proofs.YtpofgnlkhkednaaGreatDoor
open Go.RowKit
set_option linter.unusedVariables false
set_option linter.unusedSimpArgs false
set_option maxRecDepth 20000
set_option maxHeartbeats 8000000
def zeroC : List Value := [.string ⟨#[]⟩, .slice none 0 0, .slice none 0 0, .slice none 0 0]
abbrev st0 (text : Key) : ES := .ok { rest := text, now := .none, lv := 0 }
def PaE (text : Key) (w : World) (e : Ending) (w' : World) : Prop :=
 Below w.heap.size w w' ∧ ((2048 < text.length ∧ e = .returned (.tuple #[.agg zeroC.toArray, .int .i64 3])) ∨
 (text.length ≤ 2048 ∧ ∃ (x : EV) (S' : ES), Rv parseM (st0 text) x S' ∧
  ((∃ er, er ≠ 0 ∧ S' = .error er ∧ e = .returned (.tuple #[.agg zeroC.toArray, .int .i64 er])) ∨
   (∃ σ nm a1 c1 e1 a2 c2 e2 a3 c3 e3, S' = .ok σ ∧ x = pvAll (ctF nm a1 c1 e1 a2 c2 e2 a3 c3 e3) ∧ e = .returned (.tuple #[.agg ((ctF nm a1 c1 e1 a2 c2 e2 a3 c3 e3).map Fld.val).toArray, .int .i64 0]) ∧ lieAll w.heap.size w' (ctF nm a1 c1 e1 a2 c2 e2 a3 c3 e3)))))
def errI : ES → Int
 | .error e => e
 | .ok _ => 0
theorem RAt.flt {w : World} {b : Nat} {S : ES} (R : RAt w b S) : w.cell? ⟨b, 5, none⟩ = some (.int .i64 (errI S)) := by
 cases S with
 | ok σ => exact (R.box.1.cell 5).trans rfl
 | error e =>
  obtain ⟨h0, r, lv, k⟩ := R.box;exact (k.cell 5).trans rfl
theorem errI_ok {w : World} {b : Nat} {S : ES} (R : RAt w b S) (h : (errI S != 0) = false) : ∃ σ, S = .ok σ := by
 cases S with
 | ok σ => exact ⟨σ, rfl⟩
 | error e =>
  have : e ≠ 0 := R.box.1;have h : (e != 0) = false := h;simp at h;exact absurd h this
theorem errI_err {S : ES} (h : (errI S != 0) = true) : S = .error (errI S) ∧ errI S ≠ 0 := by
 cases S with
 | ok σ => simp [errI] at h
 | error e => exact ⟨rfl, by simpa using h⟩
theorem end_ok {S : ES} (h : ((nowOf S).class != 1) = false) : Rv (fun _ => endT) S () S := by
 refine Rv.of ?_
 cases S with
 | error e => rfl
 | ok σ =>
  refine Rel.of_ok ?_;have h : (σ.now.class != 1) = false := h
  have : σ.now = .fin := by
   cases hn : σ.now <;> rw [hn] at h <;> simp [Tok.class] at h <;> rfl
  simp [endT, this]
theorem end_no {S S' : ES} (h : ((nowOf S).class != 1) = true) (g : Rv (fun _ => (failT 4 : PM Unit)) S () S') : Rv (fun _ => endT) S () S' := by
 obtain ⟨n, g⟩ := g;have g := g n (Nat.le_refl _);refine Rv.of ?_
 cases S with
 | error e => exact g
 | ok σ =>
  have g := g.get_err (e := 4) rfl;subst g;refine Rel.of_err ?_;have h : (σ.now.class != 1) = true := h;have : σ.now ≠ .fin := fun q => by rw [q] at h; simp [Tok.class] at h
  simp [endT, this]
theorem below_but {wA w w' : World} {x : Nat} (h : Below wA.heap.size wA w) (B : But (fun k => k = x) w w') (hx : wA.heap.size ≤ x) : Below wA.heap.size wA w' :=
 h.trans (B.below h.size fun k q => by rw [q]; exact hx)
theorem big {n : Nat} (h : decide ((2048 : Int) < n) = true) : 2048 < n := by
 have := of_decide_eq_true h;omega
theorem parse_p (text : Key) (wA : World) (g : Gl wA) : Calls Tryz.prog 4 ([.string (str text)] : List Value).toArray wA (PaE text wA) := by
 have M : Mm (fun (_ : Unit) _ => True) (fun _ => False) wA [] () wA := Mm.begin trivial (fun _ q => q.elim) (fun _ _ _ _ _ => trivial);refine sw_fn Tryz.func4 rfl 36 Tryz.ntmps4 rfl fun A F => ?_;refine sw_seq (sw_reg ?_);refine alo F M [.string ⟨#[]⟩, .slice none 0 0, .slice none 0 0, .slice none 0 0] fun x1 A w F M=>?_;refine as1 F fun A F=>?_;refine en ?_;show Code.wp _ _ _ _ _;refine sw_seq (sw_seq (sw_reg ?_));refine mv F fun A F=>?_;refine sw_slen F ⟨rfl, rfl, rfl⟩ rfl Tryz.underlying9 rfl fun A F => ?_;refine gti F fun A F=>?_;refine en (cd F (fun hc=>?_) fun hc=>?_)
 ·refine sw_seq (sw_reg ?_);refine sw_build F _ [.string ⟨#[]⟩, .slice none 0 0, .slice none 0 0, .slice none 0 0] ⟨rfl, rfl, rfl⟩ rfl (by kernel_rfl) rfl fun A F => ?_;refine sta F M 0 fun w M=>?_;refine as1 F fun A F=>?_;refine en (wp_ret ?_);repeat first|refine tr ?_|refine br ?_
  exact sw_ret2 F Tryz.results4 rfl rfl (M.mem.box (k := 0) rfl).1 (by kernel_rfl) (by kernel_rfl) ⟨M.but.below (Nat.le_refl _) fun _ q => q.elim, .inl ⟨big hc, rfl⟩⟩
 ·have hlen : text.length ≤ 2048 := by
   have : ¬ (2048 : Int) < text.length := by simpa using hc
   omega
  refine wp_skip ?_;show Code.wp _ _ _ _ _;refine sw_seq (sw_reg ?_);refine mv F fun A F=>?_;refine sw_build F _ [.string (str text), .int .i64 0, .string ⟨#[]⟩, .int .i64 0, .int .i64 0, .int .i64 0] ⟨rfl, rfl, rfl⟩ rfl (by kernel_rfl) rfl fun A F => ?_;refine sw_box F M [.string (str text), .int .i64 0, .string ⟨#[]⟩, .int .i64 0, .int .i64 0, .int .i64 0] ⟨rfl, rfl, rfl⟩ rfl rfl rfl fun r A w F M => ?_;refine as1 F fun A F=>?_;refine en ?_;show Code.wp _ _ _ _ _;obtain ⟨wR, HwR⟩ : ∃ wR, wR = w := ⟨_, rfl⟩;have hBel : Below wA.heap.size wA wR := by rw [HwR]; exact M.but.below (Nat.le_refl _) fun _ q => q.elim
  obtain ⟨kr, hr⟩ := M.mem.box (k := 0) rfl;obtain ⟨kx, hx⟩ := M.mem.box (k := 1) rfl;have hxr : x1 ≠ r := M.mem.sep 0 1 _ _ r (by decide) rfl rfl rfl;have hg5 := g.sz;have R1 : RAt w r (st0 text) := ⟨g.below (HwR ▸ hBel), by omega, kr, hlen, trivial⟩;have kx' : Blk wR x1 zeroC.toArray 26 := by rw [HwR]; exact kx
  clear M kr kx;have M : Mm (RdX r) (fun k => k = r) wR [] (st0 text) w := by rw [HwR]; exact rd_begin R1
  have kn := Kn.here (F := parseM) (S := st0 text);have hxw : x1 < wR.heap.size := kx'.lt;clear R1 HwR;refine sw_seq (sw_reg ?_);refine mv F fun A F=>?_;refine sw_call0 (next_m r (st0 text)) F M ⟨rfl, rfl, rfl⟩ rfl rfl ?_;rintro _ S1 A w ⟨_, h1⟩ F M;replace kn := kn.step h1;refine en ?_;show Code.wp _ _ _ _ _;refine sw_seq (sw_reg ?_);refine mv F fun A F=>?_;refine sw_call (contract_m r S1) F M ⟨rfl, rfl, rfl⟩ rfl rfl ?_;rintro _ _ S2 A w ⟨nm, a1, c1, e1, a2, c2, e2, a3, c3, e3, rfl, rfl, h2⟩ F M;replace kn := kn.step h2;refine alo F M [.string ⟨#[]⟩, .slice none 0 0, .slice none 0 0, .slice none 0 0] fun x5 A w F M=>?_;refine sta F M 0 fun w M=>?_;dsimp only [List.set] at M;refine en ?_;show Code.wp _ _ _ _ _;refine sw_seq (sw_seq (sw_reg ?_));refine mv F fun A F=>?_;refine ni F fun A F=>?_;refine fl F 1 fun A F=>?_;refine fl F 0 fun A F=>?_;refine sw_ext F M.st.now.1 ⟨rfl, rfl, rfl⟩ rfl (by kernel_rfl) rfl fun A F => ?_;refine sw_neq F ⟨rfl, rfl, rfl⟩ rfl rfl rfl fun A F => ?_;refine en (cd F (fun hn=>?_) fun hn=>?_)
  ·refine sw_reg ?_;refine mv F fun A F=>?_;refine sw_call0 (fail_m 4 (by decide) r S2) F M ⟨rfl, rfl, rfl⟩ rfl rfl ?_;rintro _ S3 A w ⟨_, h3⟩ F M;have hE := end_no hn h3;refine en ?_;show Code.wp _ _ _ _ _;replace kn := kn.step hE;have kfin := kn.fin;replace F := F.keep [2, 3, 4, 5] rfl;refine sw_seq (sw_seq (sw_reg ?_));refine mv F fun A F=>?_;refine ni F fun A F=>?_;refine fl F 5 fun A F=>?_;refine sw_ext F M.st.flt ⟨rfl, rfl, rfl⟩ rfl (by kernel_rfl) rfl fun A F => ?_;refine sw_neq F ⟨rfl, rfl, rfl⟩ rfl rfl rfl fun A F => ?_;refine en ?_;show Code.wp _ _ _ _ _;have kxw := M.but.blk kx' hxr;refine cd F (fun he=>?_) fun he=>?_
   ·obtain ⟨hE1, hE2⟩ := errI_err he;have hB := below_but hBel M.but hr;refine sq ?_;refine wp_region_held (S := fun w' => w'.cell? ⟨r, 5, none⟩ = some (.int .i64 (errI S3))) (by kernel_rfl) ?_;show wpAnyH _ _ _ _ _ _ _ _ w.drew;replace M := M.drew;have hS : w.drew.cell? ⟨r, 5, none⟩ = some (.int .i64 (errI S3)) := M.st.flt;refine sd_build F 0 [] zeroC rfl ⟨rfl, rfl, rfl⟩ rfl (by kernel_rfl) (by kernel_rfl) (by kernel_rfl) (by kernel_rfl) (fun _ _ _ h => h) rfl hS fun A F => ?_;refine dm F 1 hS fun A F=>?_;refine sd_nil F 2 rfl ⟨rfl, rfl, rfl⟩ rfl (by kernel_rfl) (by kernel_rfl) (by kernel_rfl) (fun _ _ _ h => h) rfl hS fun A F => ?_;refine df F 3 5 hS fun A F=>?_;refine dc F 4 (fun _ h => h) hS fun A F=>?_;refine sd_one 5 rfl (by kernel_rfl) rfl ?_;refine sw_setX F (us := zeroC) ⟨rfl, rfl, rfl⟩ rfl rfl (kxw.below ((Below.refl w.heap.size w).drew) kxw.lt) (by kernel_rfl) rfl rfl fun w2 B2 kx2 => ?_;have hS2 : w2.cell? ⟨r, 5, none⟩ = some (.int .i64 (errI S3)) := (B2.cell (p := ⟨r, 5, none⟩) M.st.lt (fun q => hxr q.symm)).trans hS;refine sw_end ⟨hS2, ?_⟩;refine sd_one 6 rfl (by kernel_rfl) rfl ?_;refine as1 F fun A F=>?_;refine sw_end ⟨hS2, ?_⟩;refine wpAnyH_done (by kernel_rfl) ?_ _;show Code.wp _ _ _ _ _;refine wp_ret ?_;repeat first|refine tr ?_|refine br ?_
    refine sw_ret2 F Tryz.results4 rfl rfl kx2 (by kernel_rfl) (by kernel_rfl) ⟨below_but (below_but hBel M.but hr) B2 hx, .inr ⟨hlen, _, S3, kfin, .inl ⟨errI S3, hE2, hE1, rfl⟩⟩⟩
   ·obtain ⟨σ, hσ⟩ := errI_ok M.st he;refine wp_skip ?_;show Code.wp _ _ _ _ _;refine sw_seq (sw_reg ?_);refine ala F M 0 fun A F=>?_;refine sw_setX F (cs := zeroC) ⟨rfl, rfl, rfl⟩ rfl rfl kxw (by kernel_rfl) rfl rfl fun w2 B2 kx2 => ?_;refine as1 F fun A F=>?_;refine en (wp_ret ?_);have hl : lieAll wA.heap.size w2 (ctF nm a1 c1 e1 a2 c2 e2 a3 c3 e3) := ((M.mem.val (k := 1) rfl).hi (Hi.of_but B2 fun k q => by rw [q]; exact hxw)).mono hBel.size;refine sw_ret2 F Tryz.results4 rfl rfl kx2 (by kernel_rfl) (by kernel_rfl) ⟨below_but (below_but hBel M.but hr) B2 hx, .inr ⟨hlen, _, S3, kfin, .inr ⟨σ, nm, a1, c1, e1, a2, c2, e2, a3, c3, e3, hσ, rfl, rfl, hl⟩⟩⟩
  ·refine wp_skip ?_;show Code.wp _ _ _ _ _;obtain ⟨S3, hS3⟩ : ∃ S3, S3 = S2 := ⟨_, rfl⟩;have hE : Rv (fun _ => endT) S2 () S3 := by rw [hS3]; exact end_ok hn
   rw [← hS3] at M;replace kn := kn.step hE;have kfin := kn.fin;replace F := F.keep [2, 3, 4, 5] rfl;refine sw_seq (sw_seq (sw_reg ?_));refine mv F fun A F=>?_;refine ni F fun A F=>?_;refine fl F 5 fun A F=>?_;refine sw_ext F M.st.flt ⟨rfl, rfl, rfl⟩ rfl (by kernel_rfl) rfl fun A F => ?_;refine sw_neq F ⟨rfl, rfl, rfl⟩ rfl rfl rfl fun A F => ?_;refine en ?_;show Code.wp _ _ _ _ _;have kxw := M.but.blk kx' hxr;refine cd F (fun he=>?_) fun he=>?_
   ·obtain ⟨hE1, hE2⟩ := errI_err he;have hB := below_but hBel M.but hr;refine sq ?_;refine wp_region_held (S := fun w' => w'.cell? ⟨r, 5, none⟩ = some (.int .i64 (errI S3))) (by kernel_rfl) ?_;show wpAnyH _ _ _ _ _ _ _ _ w.drew;replace M := M.drew;have hS : w.drew.cell? ⟨r, 5, none⟩ = some (.int .i64 (errI S3)) := M.st.flt;refine sd_build F 0 [] zeroC rfl ⟨rfl, rfl, rfl⟩ rfl (by kernel_rfl) (by kernel_rfl) (by kernel_rfl) (by kernel_rfl) (fun _ _ _ h => h) rfl hS fun A F => ?_;refine dm F 1 hS fun A F=>?_;refine sd_nil F 2 rfl ⟨rfl, rfl, rfl⟩ rfl (by kernel_rfl) (by kernel_rfl) (by kernel_rfl) (fun _ _ _ h => h) rfl hS fun A F => ?_;refine df F 3 5 hS fun A F=>?_;refine dc F 4 (fun _ h => h) hS fun A F=>?_;refine sd_one 5 rfl (by kernel_rfl) rfl ?_;refine sw_setX F (us := zeroC) ⟨rfl, rfl, rfl⟩ rfl rfl (kxw.below ((Below.refl w.heap.size w).drew) kxw.lt) (by kernel_rfl) rfl rfl fun w2 B2 kx2 => ?_;have hS2 : w2.cell? ⟨r, 5, none⟩ = some (.int .i64 (errI S3)) := (B2.cell (p := ⟨r, 5, none⟩) M.st.lt (fun q => hxr q.symm)).trans hS;refine sw_end ⟨hS2, ?_⟩;refine sd_one 6 rfl (by kernel_rfl) rfl ?_;refine as1 F fun A F=>?_;refine sw_end ⟨hS2, ?_⟩;refine wpAnyH_done (by kernel_rfl) ?_ _;show Code.wp _ _ _ _ _;refine wp_ret ?_;repeat first|refine tr ?_|refine br ?_
    refine sw_ret2 F Tryz.results4 rfl rfl kx2 (by kernel_rfl) (by kernel_rfl) ⟨below_but (below_but hBel M.but hr) B2 hx, .inr ⟨hlen, _, S3, kfin, .inl ⟨errI S3, hE2, hE1, rfl⟩⟩⟩
   ·obtain ⟨σ, hσ⟩ := errI_ok M.st he;refine wp_skip ?_;show Code.wp _ _ _ _ _;refine sw_seq (sw_reg ?_);refine ala F M 0 fun A F=>?_;refine sw_setX F (cs := zeroC) ⟨rfl, rfl, rfl⟩ rfl rfl kxw (by kernel_rfl) rfl rfl fun w2 B2 kx2 => ?_;refine as1 F fun A F=>?_;refine en (wp_ret ?_);have hl : lieAll wA.heap.size w2 (ctF nm a1 c1 e1 a2 c2 e2 a3 c3 e3) := ((M.mem.val (k := 1) rfl).hi (Hi.of_but B2 fun k q => by rw [q]; exact hxw)).mono hBel.size;refine sw_ret2 F Tryz.results4 rfl rfl kx2 (by kernel_rfl) (by kernel_rfl) ⟨below_but (below_but hBel M.but hr) B2 hx, .inr ⟨hlen, _, S3, kfin, .inr ⟨σ, nm, a1, c1, e1, a2, c2, e2, a3, c3, e3, hσ, rfl, rfl, hl⟩⟩⟩
abbrev C4 := Value × Value × Value × Value
def tokK : Tok → Int
 | .none => 0
 | .fin => 101
 | .name _ => 110
 | .num _ => 48
 | .fixed s => if wordL.contains s then 119 else 115
def tokT : Tok → Key → Prop
 | .name s, tx => tx = s
 | .fixed s, tx => tx = s ∧ (wordL.contains s || signL.contains s) = true
 | _, _ => True
theorem RowG.at_ {lo sz x n c : Nat} {e : TypeId} {es : List (List Fld)} {w : World} (r : RowG lo e sz (.slice (some ⟨x, 0, none⟩) n c) es w) : n = es.length ∧ lo ≤ x ∧ x < w.heap.size ∧ ∀ j u, (flatV es)[j]? = some u → w.cell? ⟨x, j, none⟩ = some u := by
 rcases r.own.2 with ⟨e, _⟩ | ⟨g, cap, cur, e1, e2, e3, e4, e5, e6, e7⟩
 ·cases e
 ·injection e1 with e1 q1 q2
  injection e1 with e1
  injection e1 with e1 _ _
  subst e1;refine ⟨q1, e2, (Array.getElem?_eq_some_iff.1 e3).1, fun j u hj => ?_⟩
  have : cur.toList[j]? = some u := by
   rw [← e7] at hj;rw [List.getElem?_take] at hj
   split at hj
   ·exact hj
   ·cases hj
  simp [World.cell?, e3]
  simpa using this
section
variable {P : Program} {ops : Array Oper} {Q : Exit → Act → World → Prop} {a : Act} {w : World} {rest : List Oper} {o : Oper} {N : Nat} {L : List (Nat × Value)}
theorem sw_at (F : Fm N L a) (sz : Nat) {i : Nat} {x y : Operand} {t e : TypeId} {rb ro n c k : Nat} (h : Is o (some i) (.indexAddr t x y)) (hx : opv L x = some (.slice (some ⟨rb, ro, none⟩) n c)) (hy : opv L y = some (.int .i64 k)) (hk : k < n) (hu : P.underlying t = some (.slice e)) (hs : (P.info? e).map (·.size) = some sz) (hi : Nat.blt i N = true) (K : ∀ a', Fm N ((i, .pointer (some ⟨rb, ro + k * sz, none⟩)) :: L) a' → wpList P ops Q rest a' w) : wpList P ops Q (o :: rest) a w :=
 ol_at h.2.2 h.2.1 (F.ev hx) (F.ev hy) hk hu hs (by rw [h.1]; exact K _ (F.put hi))
theorem sw_not (F : Fm N L a) {i t : Nat} {x : Operand} {b : Bool} (h : Is o (some i) (.unOp .not t x)) (hx : opv L x = some (.bool b)) (hi : Nat.blt i N = true) (K : ∀ a', Fm N ((i, .bool (!b)) :: L) a' → wpList P ops Q rest a' w) : wpList P ops Q (o :: rest) a w :=
 sw_val F h.1 h.2.2 hi (by unfold execOp; rw [h.2.1]; simp [F.ev hx, Op.unary]) K
end
section
variable {Q : Exit → Act → World → Prop} {a : Act} {w : World}
theorem then_exit {next : Act → World → Prop} {id : Nat} (h : Q (.exit id) a w) : Exit.then next Q (.exit id) a w := h
theorem exit_block {id : Nat} (h : Q .normal a w) : Exit.inBlock id Q (.exit id) a w := by
 show (if id = id then Q .normal a w else Q (.exit id) a w);rw [if_pos rfl]; exact h
theorem exit_pass {id j : Nat} (hne : Nat.beq j id = false) (h : Q (.exit j) a w) : Exit.inBlock id Q (.exit j) a w := by
 show (if j = id then Q .normal a w else Q (.exit j) a w);rw [if_neg (fun e => by subst e; rw [Nat.beq_refl] at hne; cases hne)];exact h
end
theorem isD_range {c : UInt8} (h : isD c = true) : 48 ≤ c.toNat ∧ c.toNat ≤ 57 := by
 unfold isD at h;rw [Bool.and_eq_true, decide_eq_true_eq, decide_eq_true_eq] at h;exact h
def DV (d v : Int) : Prop := 0 ≤ v ∧ 0 ≤ d ∧ d ≤ 10995116277760 ∧ (d ≤ 1099511627775 → d = v) ∧ (1099511627775 < d → 1099511627775 < v)
theorem DV.step {d v : Int} {c : UInt8} (h : DV d v) (hc : isD c = true) : DV (if d ≤ 1099511627775 then d * 10 + ((c.toNat : Int) - 48) else d) (10 * v + ((c.toNat : Int) - 48)) := by
 obtain ⟨h1, h2, h3, h4, h5⟩ := h;have hc := isD_range hc
 by_cases hl : d ≤ 1099511627775
 ·rw [if_pos hl];have := h4 hl;exact ⟨by omega, by omega, by omega, fun _ => by omega, fun _ => by omega⟩
 ·rw [if_neg hl];have := h5 (by omega);exact ⟨by omega, by omega, by omega, fun _ => by omega, fun _ => by omega⟩
def NX (text : Key) (r : Key) (at_ : Nat) (kd : Int) (tx : Key) (n e : Int) : Prop :=
 match cutT r with
 | (.none, _) => e = 6
 | (t, r') => e = 0 ∧ at_ ≤ text.length ∧ text.drop at_ = r' ∧ kd = tokK t ∧ tokT t tx ∧ n = t.n
theorem NX.err {text r : Key} {at_ : Nat} {kd n : Int} {tx r' : Key} (h : cutT r = (.none, r')) : NX text r at_ kd tx n 6 := by
 unfold NX; rw [h]
theorem NX.ok {text r : Key} {at_ : Nat} {kd n : Int} {tx : Key} {t : Tok} {r' : Key} (h : cutT r = (t, r')) (ht : t ≠ .none) (h1 : at_ ≤ text.length) (h2 : text.drop at_ = r') (h3 : kd = tokK t) (h4 : tokT t tx) (h5 : n = t.n) : NX text r at_ kd tx n 0 := by
 unfold NX;rw [h]
 cases t with
 | none => exact absurd rfl ht
 | _ => exact ⟨rfl, h1, h2, h3, h4, h5⟩
section
variable {P : Program} {md : Region.Mode} {ops : Array Oper} {Q : Exit → Act → World → Prop} {S : World → Prop} {a : Act} {w w0 : World} {o : Oper} {N m : Nat} {L : List (Nat × Value)} {fuel : Nat} {listed : Array Bool}
theorem sd_at (F : Fm N L a) (j sz : Nat) {i : Nat} {x y : Operand} {t e : TypeId} {rb ro n c k : Nat} (hj : ops[j]? = some o) (h : Is o (some i) (.indexAddr t x y)) (hx : opv L x = some (.slice (some ⟨rb, ro, none⟩) n c)) (hy : opv L y = some (.int .i64 k)) (hk : k < n) (hu : P.underlying t = some (.slice e)) (hz : (P.info? e).map (·.size) = some sz) (hs : Region.noSelect ops = true) (hf : Region.free md ops listed j = true) (hr : (Region.ready md ops listed).contains j = true) (hQ : ∀ c a w, Q (.panic c) (a.put (some i) (.pointer (some ⟨rb, ro + k * sz, none⟩))) w → Q (.panic c) a w)
  (hb : Nat.blt i N = true) (hS : S w) (K : ∀ a', Fm N ((i, .pointer (some ⟨rb, ro + k * sz, none⟩)) :: L) a' → wpAnyH P md ops Q S fuel (listed.setIfInBounds j true) a' w) : wpAnyH P md ops Q S (fuel + 1) listed a w :=
 sd_val F j hj hs hf hr hQ h.1 h.2.2 hb (fun w _ => by
  unfold execOp;rw [h.2.1];simp only [F.ev hx, F.ev hy]
  cases hi : P.info? e with
  | none => rw [hi] at hz; cases hz
  | some i =>
   have hz : i.size = sz := by rw [hi] at hz; simpa using hz
   simp [Instr.indexAt, run_underlying hu, asIntOf, sizeOf, typeInfo, hi, hz, hk, Addr.add_lit]) hS K
end
theorem Rv.pur {α : Type} (x : α) (S : ES) : Rv (fun _ => pur x) S x S := Rv.of (Rel.pur x S)
theorem Rv.to {α : Type} {F G : Nat → PM α} {S S' : ES} {x : α} (h : Rv F S x S') (e : ∀ n, F n = G n) : Rv G S x S' := (funext e : F = G) ▸ h
theorem Rv.unbind {α β : Type} [Inhabited α] {F : Nat → PM α} {G : Nat → α → PM β} {S S2 : ES} {y : β} (hF : ∀ n, Le (F n) (F (n + 1))) (h0 : S2 ≠ .error 0) (h : Rv (fun n => bnd (F n) (G n)) S y S2) : ∃ x S1, Rv F S x S1 ∧ Rv (fun n => G n x) S1 y S2 := by
 obtain ⟨n0, h⟩ := h;obtain ⟨x, S1, h1, h2⟩ := Rel.unbind (h n0 (Nat.le_refl _))
 have hz : S1 ≠ .error 0 := fun e => by
  subst e;exact h0 h2
 have r1 : Rv F S x S1 := Rv.up h1 hF hz;refine ⟨x, S1, r1, n0, fun n hn => ?_⟩
 have r2 : Rel (F n) S x S1 := by
  obtain ⟨d, rfl⟩ := Nat.exists_eq_add_of_le hn;clear hn
  induction d with
  | zero => exact h1
  | succ d ih => exact ih.up (hF _) hz
 have g := h n hn
 cases S with
 | error e =>
  have r2 : S1 = .error e := r2;subst r2;exact g
 | ok σ =>
  cases hFn : F n σ with
  | error e =>
   have := r2.get_err hFn;subst this;exact g.get_err (by simp only [bnd, hFn])
  | ok p =>
   obtain ⟨z, τ⟩ := p;obtain ⟨rfl, rfl⟩ := r2.get_ok hFn;unfold Rel at g ⊢
   simpa only [bnd, hFn] using g
theorem Rv.any {α : Type} {F : Nat → PM α} {S : ES} {x y : α} {e : Int} (h : Rv F S x (.error e)) : Rv F S y (.error e) := by
 obtain ⟨n0, h⟩ := h;refine ⟨n0, fun n hn => ?_⟩;have g := h n hn
 cases S with
 | error e => exact g
 | ok σ =>
  cases hF : F n σ with
  | error e' =>
   cases g.get_err hF;exact Rel.of_err hF
  | ok p =>
   obtain ⟨z, τ⟩ := p;cases (g.get_ok hF).2
def Lw {α : Type} (F : PM α) : Prop := ∀ σ x τ, Rel F (.ok σ) x (.ok τ) → (mu σ : Int) - 5000 ≤ σ.lv → σ.lv ≤ 32 → σ.lv - mu σ ≤ τ.lv - mu τ ∧ τ.lv ≤ 32
theorem mu_shr {α : Type} {F : PM α} (h : Shr F) {σ τ : St} {x : α} (q : Rel F (.ok σ) x (.ok τ)) : mu τ ≤ mu σ := by
 have q : 16 * mu τ ≤ 16 * mu σ := h _ _ _ q;omega
theorem Lw.keep {α : Type} {F : PM α} (h : Shr F) (g : ∀ σ x τ, Rel F (.ok σ) x (.ok τ) → τ.lv = σ.lv) : Lw F := fun σ x τ q h1 h2 => by
 have := mu_shr h q;have := g σ x τ q;omega
theorem Lw.bd {α β : Type} [Inhabited α] {F : PM α} {G : α → PM β} (h : Lw F) (g : ∀ x, Lw (G x)) : Lw (bnd F G) := fun σ y τ q h1 h2 => by
 obtain ⟨x, S1, h3, h4⟩ := Rel.unbind q
 cases S1 with
 | error e => cases (show Except.ok τ = Except.error e from h4)
 | ok σ1 =>
  have a := h σ x σ1 h3 h1 h2;have b := g x σ1 y τ h4 (by omega) a.2;omega
theorem Lw.fail {α : Type} (e : Int) : Lw (failT e : PM α) := fun σ x τ q => by cases q.get_err (e := e) rfl
theorem Lw.wrong {α : Type} : Lw (wrongT : PM α) := fun σ x τ q => by cases q.get_err (e := errT σ) rfl
theorem Lw.pur {α : Type} (x : α) : Lw (pur x) := Lw.keep (Shr.pur x) fun σ y τ q => by cases (q.get_ok rfl).2; rfl
theorem Lw.is (s : Key) : Lw (isT s) := Lw.keep (Shr.is s) fun σ y τ q => by cases (q.get_ok rfl).2; rfl
theorem Lw.pick (l : List (Int × Key)) : Lw (pickT l) := Lw.keep (Shr.pick l) fun σ y τ q => by cases (q.get_ok rfl).2; rfl
theorem next_lv {σ τ : St} (q : Rel nextT (.ok σ) () (.ok τ)) : τ.lv = σ.lv := by
 cases h : nextT σ with
 | error e => cases q.get_err h
 | ok p =>
  obtain ⟨⟨⟩, ρ⟩ := p;cases (q.get_ok h).2;unfold nextT at h
  split at h
  ·cases h
  ·cases h; rfl
theorem Lw.next : Lw nextT := Lw.keep Shr.next fun σ y τ q => next_lv q
theorem take_lv {s : Key} {σ τ : St} (q : Rel (takeT s) (.ok σ) () (.ok τ)) : τ.lv = σ.lv ∧ mu τ + 1 ≤ mu σ := by
 by_cases hs : σ.now = .fixed s
 ·have h : 16 * mu τ + 16 ≤ 16 * mu σ := (need_take q).2 (decide_eq_true hs);refine ⟨next_lv (Rel.at (F := takeT s) q fun ρ e => ?_), by omega⟩;injection e with e
  subst e;exact if_pos hs
 ·cases q.get_err (if_neg hs)
theorem Lw.take (s : Key) : Lw (takeT s) := Lw.keep (Shr.take s) fun σ y τ q => (take_lv q).1
theorem deeper_lv {σ τ : St} (q : Rel deeperT (.ok σ) () (.ok τ)) (h1 : (mu σ : Int) - 5000 ≤ σ.lv) (h2 : σ.lv ≤ 32) : τ.lv = σ.lv + 1 ∧ mu τ = mu σ ∧ τ.lv ≤ 32 := by
 by_cases h32 : σ.lv = 32
 ·cases q.get_err (if_pos h32)
 ·cases (q.get_ok (if_neg h32)).2;have : wrap64 (σ.lv + 1) = σ.lv + 1 := by unfold wrap64; omega
  refine ⟨this, rfl, ?_⟩;show wrap64 (σ.lv + 1) ≤ 32;omega
theorem Lw.deeper : Lw deeperT := fun σ x τ q h1 h2 => by
 have := deeper_lv q h1 h2;omega
theorem up_lv {σ τ : St} (q : Rel upT (.ok σ) () (.ok τ)) (h1 : -6000 ≤ σ.lv) (h2 : σ.lv ≤ 32) : τ.lv = σ.lv - 1 ∧ mu τ = mu σ := by
 cases (q.get_ok (y := ()) rfl).2;have : wrap64 (σ.lv - 1) = σ.lv - 1 := by unfold wrap64; omega
 exact ⟨this, rfl⟩
theorem Lw.shut (s : Key) : Lw (shutT s) := fun σ x τ q h1 h2 => by
 obtain ⟨⟨⟩, S1, h3, h4⟩ := Rel.unbind q
 cases S1 with
 | error e => cases (show Except.ok τ = Except.error e from h4)
 | ok σ1 =>
  have a := take_lv h3;have b := up_lv h4 (by omega) (by omega);omega
theorem Lw.ite {α : Type} {c : Prop} [Decidable c] {F G : PM α} (h : Lw F) (g : Lw G) : Lw (if c then F else G) := by
 by_cases q : c
 ·rw [if_pos q]; exact h
 ·rw [if_neg q]; exact g
theorem Lw.open (s : Key) : Lw (openT s) := Lw.bd (Lw.is s) fun c => Lw.bd (Lw.ite Lw.deeper (Lw.pur _)) fun _ => Lw.take s
theorem Lw.room (n m : Int) : Lw (roomT n m) := Lw.ite (Lw.fail _) (Lw.pur _)
theorem Lw.at {α : Type} {F : PM α} (h : ∀ σ, ∃ G : PM α, Lw G ∧ G σ = F σ) : Lw F := fun σ x τ q => by
 obtain ⟨G, hG, e⟩ := h σ;refine hG σ x τ ?_;unfold Rel at q ⊢;simp only [e];exact q
theorem Lw.name : Lw nameT := Lw.at fun σ => by
 cases h : σ.now with
 | name s => exact ⟨_, Lw.bd Lw.next fun _ => Lw.pur s, by unfold nameT; rw [h]⟩
 | num m => exact ⟨_, Lw.wrong, by unfold nameT; rw [h]; rfl⟩
 | none => exact ⟨_, Lw.wrong, by unfold nameT; rw [h]; rfl⟩
 | fin => exact ⟨_, Lw.wrong, by unfold nameT; rw [h]; rfl⟩
 | fixed s => exact ⟨_, Lw.wrong, by unfold nameT; rw [h]; rfl⟩
end Go.Proofs.YtpofgnlkhkednaaGreatDoor
