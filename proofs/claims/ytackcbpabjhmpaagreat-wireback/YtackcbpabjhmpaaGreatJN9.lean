import Derived.Test.YtackcbpabjhmpaaGreatM42
namespace Go.Proofs.YtackcbpabjhmpaaGreat
open Go.RowKit
set_option linter.unusedVariables false
set_option linter.unusedSimpArgs false
theorem Reads.rdg {f : FuncId} {sc : List Sc} (hE : enters Tryz.prog f = true) (h : Reads f sc) : Rdg f [] sc := ⟨hE, h⟩
theorem number_g : Rdg 41 [] [numC] := Reads.rdg (by kernel_rfl) number_reads
theorem flag_g : Rdg 125 [] [.flag] := Reads.rdg (by kernel_rfl) flag_reads
theorem digest_g : Rdg 126 [] [.dig] := Reads.rdg (by kernel_rfl) digest_reads
theorem bounded_g {m : Int} (hm : 0 ≤ m ∧ m ≤ 1099511627775) : Rdg 119 [.int .i64 m] [.num m] := ⟨by kernel_rfl, fun b xb o cs t s w h => bounded_rd b xb o cs t m s w hm h.len h.rd h.x h.z.lt h.ne⟩
theorem text_g {m : Int} (hm : 0 ≤ m ∧ m ≤ 100000) : Rdg 153 [.int .i64 m] [.text m] := ⟨by kernel_rfl, fun b xb o cs t s w h => text_rd b xb o cs t m s w hm h⟩
theorem pheader_wk : Walks 67 [.many 124 187 2 numC, .many 148 195 6 .dig, .one 41 [] [numC]] :=
 ⟨by kernel_rfl, fun S R b xb off w hp H K => ab_fn Tryz.func67 rfl rfl (by decide) H fun A F => by
  refine wp_seq (ab_many (hp _ (.head _)) rfl (by kernel_rfl) (by kernel_rfl) (by kernel_rfl) (by kernel_rfl) (by decide) rfl (fun _ _ _ hd h => ⟨hd, h⟩) (fun _ _ _ _ _ h => h) (by simp) (by simp) F H ?_)
  clear F H
  intro A w F H
  show Code.wp _ _ _ _ _
  refine wp_seq (ab_many (hp _ (.tail _ (.head _))) rfl (by kernel_rfl) (by kernel_rfl) (by kernel_rfl) (by kernel_rfl) (by decide) rfl (fun _ _ _ hd h => ⟨hd, h⟩) (fun _ _ _ _ _ h => h) (by simp) (by simp) F H ?_)
  clear F H
  intro A w F H
  show Code.wp _ _ _ _ _
  exact ab_sub (ex := []) (hp _ (.tail _ (.tail _ (.head _)))) rfl (fun _ => rfl) (by kernel_rfl) rfl (fun _ _ _ hd h => ⟨hd, h⟩) (by simp) (by simp) F H fun A w F H => ret_plain rfl F.2.1 (K _ _ H)⟩
theorem pheader_g : Rdg 67 [] Header.sc := pheader_wk.reads (by
 intro p hp
 rcases List.mem_cons.1 hp with rfl | hp
 ·exact ⟨by decide, .inl ⟨rfl, rfl, rfl⟩⟩
 rcases List.mem_cons.1 hp with rfl | hp
 ·exact ⟨by decide, .inr ⟨rfl, rfl, rfl⟩⟩
 rw [List.mem_singleton.1 hp]
 exact number_g) rfl
theorem pheader_w : Wtg 67 [] Header.sc := pheader_wk.writes (by
 intro p hp
 rcases List.mem_cons.1 hp with rfl | hp
 ·exact ⟨by decide, .inl ⟨rfl, rfl, rfl⟩⟩
 rcases List.mem_cons.1 hp with rfl | hp
 ·exact ⟨by decide, .inr ⟨rfl, rfl, rfl⟩⟩
 rw [List.mem_singleton.1 hp]
 exact number_w) rfl
theorem lInt_fn : ListFn 134 40 3 ([numC] : List Sc).length := .mk Tryz.func134 rfl rfl rfl (by kernel_rfl) (by kernel_rfl) (by kernel_rfl) (by kernel_rfl) (by decide) (by constructor <;> exact ⟨rfl, rfl, rfl⟩) (by constructor <;> exact ⟨rfl, rfl, rfl⟩)
theorem lInt_g {m : Int} (hm : 0 ≤ m ∧ m ≤ 1000) : Rdg 134 [.int .i64 m, .func (.func 41) #[] #[]] [.list m [numC]] := list_reads lInt_fn number_g (z := .int .i64 0) (by kernel_rfl) rfl hm ⟨fun q => absurd (congrArg List.length q) (by decide), by decide⟩
theorem lInt_w {m : Int} (hm : 0 ≤ m ∧ m ≤ 1000) : Wtg 134 [.int .i64 m, .func (.func 41) #[] #[]] [.list m [numC]] := list_writes lInt_fn number_w hm
theorem pcert_wk : Walks 55 [.many 124 187 3 numC, .one 125 [] [.flag], .one 126 [] [.dig], .one 134 [.int .i64 7, .func (.func 41) #[] #[]] [.list 7 [numC]]] :=
 ⟨by kernel_rfl, fun S R b xb off w hp H K => ab_fn Tryz.func55 rfl rfl (by decide) H fun A F => by
  refine wp_seq (ab_many (hp _ (.head _)) rfl (by kernel_rfl) (by kernel_rfl) (by kernel_rfl) (by kernel_rfl) (by decide) rfl (fun _ _ _ hd h => ⟨hd, h⟩) (fun _ _ _ _ _ h => h) (by simp) (by simp) F H ?_)
  clear F H
  intro A w F H
  show Code.wp _ _ _ _ _
  refine wp_seq (ab_sub (ex := []) (hp _ (.tail _ (.head _))) rfl (fun _ => rfl) (by kernel_rfl) rfl (fun _ _ _ hd h => ⟨hd, h⟩) (by simp) (by simp) F H ?_)
  clear F H
  intro A w F H
  show Code.wp _ _ _ _ _
  refine wp_seq (ab_sub (ex := []) (hp _ (.tail _ (.tail _ (.head _)))) rfl (fun _ => rfl) (by kernel_rfl) rfl (fun _ _ _ hd h => ⟨hd, h⟩) (by simp) (by simp) F H ?_)
  clear F H
  intro A w F H
  show Code.wp _ _ _ _ _
  exact ab_sub (ex := [.const (.int .i64 7), .func 41]) (hp _ (.tail _ (.tail _ (.tail _ (.head _))))) rfl (fun _ => rfl) (by kernel_rfl) rfl (fun _ _ _ hd h => ⟨hd, h⟩) (by simp) (by simp) F H fun A w F H => ret_plain rfl F.2.1 (K _ _ H)⟩
theorem pcert_g : Rdg 55 [] Cert.sc := pcert_wk.reads (by
 intro p hp
 rcases List.mem_cons.1 hp with rfl | hp
 ·exact ⟨by decide, .inl ⟨rfl, rfl, rfl⟩⟩
 rcases List.mem_cons.1 hp with rfl | hp
 ·exact flag_g
 rcases List.mem_cons.1 hp with rfl | hp
 ·exact digest_g
 rw [List.mem_singleton.1 hp]
 exact lInt_g (by decide)) rfl
theorem pcert_w : Wtg 55 [] Cert.sc := pcert_wk.writes (by
 intro p hp
 rcases List.mem_cons.1 hp with rfl | hp
 ·exact ⟨by decide, .inl ⟨rfl, rfl, rfl⟩⟩
 rcases List.mem_cons.1 hp with rfl | hp
 ·exact flag_w
 rcases List.mem_cons.1 hp with rfl | hp
 ·exact digest_w
 rw [List.mem_singleton.1 hp]
 exact lInt_w (by decide)) rfl
theorem pvote_wk : Walks 49 [.many 124 187 3 numC, .one 125 [] [.flag], .one 126 [] [.dig], .one 41 [] [numC]] :=
 ⟨by kernel_rfl, fun S R b xb off w hp H K => ab_fn Tryz.func49 rfl rfl (by decide) H fun A F => by
  refine wp_seq (ab_many (hp _ (.head _)) rfl (by kernel_rfl) (by kernel_rfl) (by kernel_rfl) (by kernel_rfl) (by decide) rfl (fun _ _ _ hd h => ⟨hd, h⟩) (fun _ _ _ _ _ h => h) (by simp) (by simp) F H ?_)
  clear F H
  intro A w F H
  show Code.wp _ _ _ _ _
  refine wp_seq (ab_sub (ex := []) (hp _ (.tail _ (.head _))) rfl (fun _ => rfl) (by kernel_rfl) rfl (fun _ _ _ hd h => ⟨hd, h⟩) (by simp) (by simp) F H ?_)
  clear F H
  intro A w F H
  show Code.wp _ _ _ _ _
  refine wp_seq (ab_sub (ex := []) (hp _ (.tail _ (.tail _ (.head _)))) rfl (fun _ => rfl) (by kernel_rfl) rfl (fun _ _ _ hd h => ⟨hd, h⟩) (by simp) (by simp) F H ?_)
  clear F H
  intro A w F H
  show Code.wp _ _ _ _ _
  exact ab_sub (ex := []) (hp _ (.tail _ (.tail _ (.tail _ (.head _))))) rfl (fun _ => rfl) (by kernel_rfl) rfl (fun _ _ _ hd h => ⟨hd, h⟩) (by simp) (by simp) F H fun A w F H => ret_plain rfl F.2.1 (K _ _ H)⟩
theorem pvote_g : Rdg 49 [] Vote.sc := pvote_wk.reads (by
 intro p hp
 rcases List.mem_cons.1 hp with rfl | hp
 ·exact ⟨by decide, .inl ⟨rfl, rfl, rfl⟩⟩
 rcases List.mem_cons.1 hp with rfl | hp
 ·exact flag_g
 rcases List.mem_cons.1 hp with rfl | hp
 ·exact digest_g
 rw [List.mem_singleton.1 hp]
 exact number_g) rfl
theorem pvote_w : Wtg 49 [] Vote.sc := pvote_wk.writes (by
 intro p hp
 rcases List.mem_cons.1 hp with rfl | hp
 ·exact ⟨by decide, .inl ⟨rfl, rfl, rfl⟩⟩
 rcases List.mem_cons.1 hp with rfl | hp
 ·exact flag_w
 rcases List.mem_cons.1 hp with rfl | hp
 ·exact digest_w
 rw [List.mem_singleton.1 hp]
 exact number_w) rfl
theorem pguilt_wk : Walks 85 [.one 49 [] Vote.sc, .one 49 [] Vote.sc] :=
 ⟨by kernel_rfl, fun S R b xb off w hp H K => ab_fn Tryz.func85 rfl rfl (by decide) H fun A F => by
  refine wp_seq (ab_sub (ex := []) (hp _ (.head _)) rfl (fun _ => rfl) (by kernel_rfl) rfl (fun _ _ _ hd h => ⟨hd, h⟩) (by simp) (by simp) F H ?_)
  clear F H
  intro A w F H
  show Code.wp _ _ _ _ _
  exact ab_sub (ex := []) (hp _ (.tail _ (.head _))) rfl (fun _ => rfl) (by kernel_rfl) rfl (fun _ _ _ hd h => ⟨hd, h⟩) (by simp) (by simp) F H fun A w F H => ret_plain rfl F.2.1 (K _ _ H)⟩
theorem pguilt_g : Rdg 85 [] Guilt.sc := pguilt_wk.reads (by
 intro p hp
 rcases List.mem_cons.1 hp with rfl | hp
 ·exact pvote_g
 rw [List.mem_singleton.1 hp]
 exact pvote_g) rfl
theorem pguilt_w : Wtg 85 [] Guilt.sc := pguilt_wk.writes (by
 intro p hp
 rcases List.mem_cons.1 hp with rfl | hp
 ·exact pvote_w
 rw [List.mem_singleton.1 hp]
 exact pvote_w) rfl
theorem pbench1_wk : Walks 141 [.many 124 187 2 numC] :=
 ⟨by kernel_rfl, fun S R b xb off w hp H K => ab_fn Tryz.func141 rfl rfl (by decide) H fun A F => by
  exact ab_many (hp _ (.head _)) rfl (by kernel_rfl) (by kernel_rfl) (by kernel_rfl) (by kernel_rfl) (by decide) rfl (fun _ _ _ hd h => ⟨hd, h⟩) (fun _ _ _ _ _ h => h) (by simp) (by simp) F H fun A w F H => ret_plain rfl F.2.1 (K _ _ H)⟩
theorem pbench1_g : Rdg 141 [] pairSc := pbench1_wk.reads (by
 intro p hp
 rw [List.mem_singleton.1 hp]
 exact ⟨by decide, .inl ⟨rfl, rfl, rfl⟩⟩) rfl
theorem pbench1_w : Wtg 141 [] pairSc := pbench1_wk.writes (by
 intro p hp
 rw [List.mem_singleton.1 hp]
 exact ⟨by decide, .inl ⟨rfl, rfl, rfl⟩⟩) rfl
theorem lSeat_fn : ListFn 140 46 208 (pairSc : List Sc).length := .mk Tryz.func140 rfl rfl rfl (by kernel_rfl) (by kernel_rfl) (by kernel_rfl) (by kernel_rfl) (by decide) (by constructor <;> exact ⟨rfl, rfl, rfl⟩) (by constructor <;> exact ⟨rfl, rfl, rfl⟩)
theorem lSeat_g {m : Int} (hm : 0 ≤ m ∧ m ≤ 1000) : Rdg 140 [.int .i64 m, .func (.func 141) #[] #[]] [.list m pairSc] := list_reads lSeat_fn pbench1_g (z := .agg (zArr pairSc)) (by kernel_rfl) rfl hm ⟨fun q => absurd (congrArg List.length q) (by decide), by decide⟩
theorem lSeat_w {m : Int} (hm : 0 ≤ m ∧ m ≤ 1000) : Wtg 140 [.int .i64 m, .func (.func 141) #[] #[]] [.list m pairSc] := list_writes lSeat_fn pbench1_w hm
theorem pbench_wk : Walks 61 [.one 140 [.int .i64 7, .func (.func 141) #[] #[]] [.list 7 pairSc]] :=
 ⟨by kernel_rfl, fun S R b xb off w hp H K => ab_fn Tryz.func61 rfl rfl (by decide) H fun A F => by
  exact ab_pass (ex := [.const (.int .i64 7), .func 141]) (hp _ (.head _)) rfl (fun _ => rfl) rfl (fun _ _ _ hd h => ⟨hd, h⟩) (by simp) (by simp) F H fun A w F H => ret_plain rfl F.2.1 (K _ _ H)⟩
theorem pbench_g : Rdg 61 [] [.list 7 pairSc] := pbench_wk.reads (by
 intro p hp
 rw [List.mem_singleton.1 hp]
 exact lSeat_g (by decide)) rfl
theorem pbench_w : Wtg 61 [] [.list 7 pairSc] := pbench_wk.writes (by
 intro p hp
 rw [List.mem_singleton.1 hp]
 exact lSeat_w (by decide)) rfl
theorem pproof1_wk : Walks 152 [.one 119 [.int .i64 287] [.num 287], .one 126 [] [.dig]] :=
 ⟨by kernel_rfl, fun S R b xb off w hp H K => ab_fn Tryz.func152 rfl rfl (by decide) H fun A F => by
  refine wp_seq (ab_sub (ex := [.const (.int .i64 287)]) (hp _ (.head _)) rfl (fun _ => rfl) (by kernel_rfl) rfl (fun _ _ _ hd h => ⟨hd, h⟩) (by simp) (by simp) F H ?_)
  clear F H
  intro A w F H
  show Code.wp _ _ _ _ _
  exact ab_sub (ex := []) (hp _ (.tail _ (.head _))) rfl (fun _ => rfl) (by kernel_rfl) rfl (fun _ _ _ hd h => ⟨hd, h⟩) (by simp) (by simp) F H fun A w F H => ret_plain rfl F.2.1 (K _ _ H)⟩
theorem pproof1_g : Rdg 152 [] Turn.sc := pproof1_wk.reads (by
 intro p hp
 rcases List.mem_cons.1 hp with rfl | hp
 ·exact bounded_g (by decide)
 rw [List.mem_singleton.1 hp]
 exact digest_g) rfl
theorem pproof1_w : Wtg 152 [] Turn.sc := pproof1_wk.writes (by
 intro p hp
 rcases List.mem_cons.1 hp with rfl | hp
 ·exact bounded_w (by decide)
 rw [List.mem_singleton.1 hp]
 exact digest_w) rfl
theorem lTurn_fn : ListFn 151 55 220 (Turn.sc : List Sc).length := .mk Tryz.func151 rfl rfl rfl (by kernel_rfl) (by kernel_rfl) (by kernel_rfl) (by kernel_rfl) (by decide) (by constructor <;> exact ⟨rfl, rfl, rfl⟩) (by constructor <;> exact ⟨rfl, rfl, rfl⟩)
theorem lTurn_g {m : Int} (hm : 0 ≤ m ∧ m ≤ 1000) : Rdg 151 [.int .i64 m, .func (.func 152) #[] #[]] [.list m Turn.sc] := list_reads lTurn_fn pproof1_g (z := .agg (zArr Turn.sc)) (by kernel_rfl) rfl hm ⟨fun q => absurd (congrArg List.length q) (by decide), by decide⟩
theorem lTurn_w {m : Int} (hm : 0 ≤ m ∧ m ≤ 1000) : Wtg 151 [.int .i64 m, .func (.func 152) #[] #[]] [.list m Turn.sc] := list_writes lTurn_fn pproof1_w hm
theorem pproof_wk : Walks 73 [.one 151 [.int .i64 288, .func (.func 152) #[] #[]] [.list 288 Turn.sc], .one 125 [] [.flag], .one 153 [.int .i64 32] [.text 32], .one 153 [.int .i64 4096] [.text 4096]] :=
 ⟨by kernel_rfl, fun S R b xb off w hp H K => ab_fn Tryz.func73 rfl rfl (by decide) H fun A F => by
  refine wp_seq (ab_sub (ex := [.const (.int .i64 288), .func 152]) (hp _ (.head _)) rfl (fun _ => rfl) (by kernel_rfl) rfl (fun _ _ _ hd h => ⟨hd, h⟩) (by simp) (by simp) F H ?_)
  clear F H
  intro A w F H
  show Code.wp _ _ _ _ _
  refine wp_seq (ab_sub (ex := []) (hp _ (.tail _ (.head _))) rfl (fun _ => rfl) (by kernel_rfl) rfl (fun _ _ _ hd h => ⟨hd, h⟩) (by simp) (by simp) F H ?_)
  clear F H
  intro A w F H
  show Code.wp _ _ _ _ _
  refine wp_seq (ab_sub (ex := [.const (.int .i64 32)]) (hp _ (.tail _ (.tail _ (.head _)))) rfl (fun _ => rfl) (by kernel_rfl) rfl (fun _ _ _ hd h => ⟨hd, h⟩) (by simp) (by simp) F H ?_)
  clear F H
  intro A w F H
  show Code.wp _ _ _ _ _
  exact ab_sub (ex := [.const (.int .i64 4096)]) (hp _ (.tail _ (.tail _ (.tail _ (.head _))))) rfl (fun _ => rfl) (by kernel_rfl) rfl (fun _ _ _ hd h => ⟨hd, h⟩) (by simp) (by simp) F H fun A w F H => ret_plain rfl F.2.1 (K _ _ H)⟩
theorem pproof_g : Rdg 73 [] Proof.sc := pproof_wk.reads (by
 intro p hp
 rcases List.mem_cons.1 hp with rfl | hp
 ·exact lTurn_g (by decide)
 rcases List.mem_cons.1 hp with rfl | hp
 ·exact flag_g
 rcases List.mem_cons.1 hp with rfl | hp
 ·exact text_g (by decide)
 rw [List.mem_singleton.1 hp]
 exact text_g (by decide)) rfl
theorem pproof_w : Wtg 73 [] Proof.sc := pproof_wk.writes (by
 intro p hp
 rcases List.mem_cons.1 hp with rfl | hp
 ·exact lTurn_w (by decide)
 rcases List.mem_cons.1 hp with rfl | hp
 ·exact flag_w
 rcases List.mem_cons.1 hp with rfl | hp
 ·exact text_w (by decide)
 rw [List.mem_singleton.1 hp]
 exact text_w (by decide)) rfl
theorem psight_wk : Walks 161 [.one 67 [] Header.sc, .one 55 [] Cert.sc, .one 61 [] [.list 7 pairSc]] :=
 ⟨by kernel_rfl, fun S R b xb off w hp H K => ab_fn Tryz.func161 rfl rfl (by decide) H fun A F => by
  refine wp_seq (ab_sub (ex := []) (hp _ (.head _)) rfl (fun _ => rfl) (by kernel_rfl) rfl (fun _ _ _ hd h => ⟨hd, h⟩) (by simp) (by simp) F H ?_)
  clear F H
  intro A w F H
  show Code.wp _ _ _ _ _
  refine wp_seq (ab_sub (ex := []) (hp _ (.tail _ (.head _))) rfl (fun _ => rfl) (by kernel_rfl) rfl (fun _ _ _ hd h => ⟨hd, h⟩) (by simp) (by simp) F H ?_)
  clear F H
  intro A w F H
  show Code.wp _ _ _ _ _
  exact ab_sub (ex := []) (hp _ (.tail _ (.tail _ (.head _)))) rfl (fun _ => rfl) (by kernel_rfl) rfl (fun _ _ _ hd h => ⟨hd, h⟩) (by simp) (by simp) F H fun A w F H => ret_plain rfl F.2.1 (K _ _ H)⟩
theorem psight_g : Rdg 161 [] Sight.sc := psight_wk.reads (by
 intro p hp
 rcases List.mem_cons.1 hp with rfl | hp
 ·exact pheader_g
 rcases List.mem_cons.1 hp with rfl | hp
 ·exact pcert_g
 rw [List.mem_singleton.1 hp]
 exact pbench_g) rfl
theorem psight_w : Wtg 161 [] Sight.sc := psight_wk.writes (by
 intro p hp
 rcases List.mem_cons.1 hp with rfl | hp
 ·exact pheader_w
 rcases List.mem_cons.1 hp with rfl | hp
 ·exact pcert_w
 rw [List.mem_singleton.1 hp]
 exact pbench_w) rfl
theorem lSight_fn : ListFn 160 61 233 (Sight.sc : List Sc).length := .mk Tryz.func160 rfl rfl rfl (by kernel_rfl) (by kernel_rfl) (by kernel_rfl) (by kernel_rfl) (by decide) (by constructor <;> exact ⟨rfl, rfl, rfl⟩) (by constructor <;> exact ⟨rfl, rfl, rfl⟩)
theorem lSight_g {m : Int} (hm : 0 ≤ m ∧ m ≤ 1000) : Rdg 160 [.int .i64 m, .func (.func 161) #[] #[]] [.list m Sight.sc] := list_reads lSight_fn psight_g (z := .agg (zArr Sight.sc)) (by kernel_rfl) rfl hm ⟨fun q => absurd (congrArg List.length q) (by decide), by decide⟩
theorem lSight_w {m : Int} (hm : 0 ≤ m ∧ m ≤ 1000) : Wtg 160 [.int .i64 m, .func (.func 161) #[] #[]] [.list m Sight.sc] := list_writes lSight_fn psight_w hm
theorem lProof_fn : ListFn 162 62 57 (Proof.sc : List Sc).length := .mk Tryz.func162 rfl rfl rfl (by kernel_rfl) (by kernel_rfl) (by kernel_rfl) (by kernel_rfl) (by decide) (by constructor <;> exact ⟨rfl, rfl, rfl⟩) (by constructor <;> exact ⟨rfl, rfl, rfl⟩)
theorem lProof_g {m : Int} (hm : 0 ≤ m ∧ m ≤ 1000) : Rdg 162 [.int .i64 m, .func (.func 73) #[] #[]] [.list m Proof.sc] := list_reads lProof_fn pproof_g (z := .agg (zArr Proof.sc)) (by kernel_rfl) rfl hm ⟨fun q => absurd (congrArg List.length q) (by decide), by decide⟩
theorem lProof_w {m : Int} (hm : 0 ≤ m ∧ m ≤ 1000) : Wtg 162 [.int .i64 m, .func (.func 73) #[] #[]] [.list m Proof.sc] := list_writes lProof_fn pproof_w hm
theorem ptx_wk : Walks 79 [.many 124 187 7 numC, .one 153 [.int .i64 2048] [.text 2048], .one 134 [.int .i64 8, .func (.func 41) #[] #[]] [.list 8 [numC]], .one 160 [.int .i64 1, .func (.func 161) #[] #[]] [.list 1 Sight.sc], .one 162 [.int .i64 1, .func (.func 73) #[] #[]] [.list 1 Proof.sc]] :=
 ⟨by kernel_rfl, fun S R b xb off w hp H K => ab_fn Tryz.func79 rfl rfl (by decide) H fun A F => by
  refine wp_seq (ab_many (hp _ (.head _)) rfl (by kernel_rfl) (by kernel_rfl) (by kernel_rfl) (by kernel_rfl) (by decide) rfl (fun _ _ _ hd h => ⟨hd, h⟩) (fun _ _ _ _ _ h => h) (by simp) (by simp) F H ?_)
  clear F H
  intro A w F H
  show Code.wp _ _ _ _ _
  refine wp_seq (ab_sub (ex := [.const (.int .i64 2048)]) (hp _ (.tail _ (.head _))) rfl (fun _ => rfl) (by kernel_rfl) rfl (fun _ _ _ hd h => ⟨hd, h⟩) (by simp) (by simp) F H ?_)
  clear F H
  intro A w F H
  show Code.wp _ _ _ _ _
  refine wp_seq (ab_sub (ex := [.const (.int .i64 8), .func 41]) (hp _ (.tail _ (.tail _ (.head _)))) rfl (fun _ => rfl) (by kernel_rfl) rfl (fun _ _ _ hd h => ⟨hd, h⟩) (by simp) (by simp) F H ?_)
  clear F H
  intro A w F H
  show Code.wp _ _ _ _ _
  refine wp_seq (ab_sub (ex := [.const (.int .i64 1), .func 161]) (hp _ (.tail _ (.tail _ (.tail _ (.head _))))) rfl (fun _ => rfl) (by kernel_rfl) rfl (fun _ _ _ hd h => ⟨hd, h⟩) (by simp) (by simp) F H ?_)
  clear F H
  intro A w F H
  show Code.wp _ _ _ _ _
  exact ab_sub (ex := [.const (.int .i64 1), .func 73]) (hp _ (.tail _ (.tail _ (.tail _ (.tail _ (.head _)))))) rfl (fun _ => rfl) (by kernel_rfl) rfl (fun _ _ _ hd h => ⟨hd, h⟩) (by simp) (by simp) F H fun A w F H => ret_plain rfl F.2.1 (K _ _ H)⟩
theorem ptx_g : Rdg 79 [] Tx.sc := ptx_wk.reads (by
 intro p hp
 rcases List.mem_cons.1 hp with rfl | hp
 ·exact ⟨by decide, .inl ⟨rfl, rfl, rfl⟩⟩
 rcases List.mem_cons.1 hp with rfl | hp
 ·exact text_g (by decide)
 rcases List.mem_cons.1 hp with rfl | hp
 ·exact lInt_g (by decide)
 rcases List.mem_cons.1 hp with rfl | hp
 ·exact lSight_g (by decide)
 rw [List.mem_singleton.1 hp]
 exact lProof_g (by decide)) rfl
theorem ptx_w : Wtg 79 [] Tx.sc := ptx_wk.writes (by
 intro p hp
 rcases List.mem_cons.1 hp with rfl | hp
 ·exact ⟨by decide, .inl ⟨rfl, rfl, rfl⟩⟩
 rcases List.mem_cons.1 hp with rfl | hp
 ·exact text_w (by decide)
 rcases List.mem_cons.1 hp with rfl | hp
 ·exact lInt_w (by decide)
 rcases List.mem_cons.1 hp with rfl | hp
 ·exact lSight_w (by decide)
 rw [List.mem_singleton.1 hp]
 exact lProof_w (by decide)) rfl
theorem lTx_fn : ListFn 227 137 64 (Tx.sc : List Sc).length := .mk Tryz.func227 rfl rfl rfl (by kernel_rfl) (by kernel_rfl) (by kernel_rfl) (by kernel_rfl) (by decide) (by constructor <;> exact ⟨rfl, rfl, rfl⟩) (by constructor <;> exact ⟨rfl, rfl, rfl⟩)
theorem lTx_g {m : Int} (hm : 0 ≤ m ∧ m ≤ 1000) : Rdg 227 [.int .i64 m, .func (.func 79) #[] #[]] [.list m Tx.sc] := list_reads lTx_fn ptx_g (z := .agg (zArr Tx.sc)) (by kernel_rfl) rfl hm ⟨fun q => absurd (congrArg List.length q) (by decide), by decide⟩
theorem lTx_w {m : Int} (hm : 0 ≤ m ∧ m ≤ 1000) : Wtg 227 [.int .i64 m, .func (.func 79) #[] #[]] [.list m Tx.sc] := list_writes lTx_fn ptx_w hm
theorem lGuilt_fn : ListFn 228 138 69 (Guilt.sc : List Sc).length := .mk Tryz.func228 rfl rfl rfl (by kernel_rfl) (by kernel_rfl) (by kernel_rfl) (by kernel_rfl) (by decide) (by constructor <;> exact ⟨rfl, rfl, rfl⟩) (by constructor <;> exact ⟨rfl, rfl, rfl⟩)
theorem lGuilt_g {m : Int} (hm : 0 ≤ m ∧ m ≤ 1000) : Rdg 228 [.int .i64 m, .func (.func 85) #[] #[]] [.list m Guilt.sc] := list_reads lGuilt_fn pguilt_g (z := .agg (zArr Guilt.sc)) (by kernel_rfl) rfl hm ⟨fun q => absurd (congrArg List.length q) (by decide), by decide⟩
theorem lGuilt_w {m : Int} (hm : 0 ≤ m ∧ m ≤ 1000) : Wtg 228 [.int .i64 m, .func (.func 85) #[] #[]] [.list m Guilt.sc] := list_writes lGuilt_fn pguilt_w hm
theorem pblock_wk : Walks 174 [.one 67 [] Header.sc, .one 227 [.int .i64 16, .func (.func 79) #[] #[]] [.list 16 Tx.sc], .one 228 [.int .i64 4, .func (.func 85) #[] #[]] [.list 4 Guilt.sc]] :=
 ⟨by kernel_rfl, fun S R b xb off w hp H K => ab_fn Tryz.func174 rfl rfl (by decide) H fun A F => by
  refine wp_seq (ab_sub (ex := []) (hp _ (.head _)) rfl (fun _ => rfl) (by kernel_rfl) rfl (fun _ _ _ hd h => ⟨hd, h⟩) (by simp) (by simp) F H ?_)
  clear F H
  intro A w F H
  show Code.wp _ _ _ _ _
  refine wp_seq (ab_sub (ex := [.const (.int .i64 16), .func 79]) (hp _ (.tail _ (.head _))) rfl (fun _ => rfl) (by kernel_rfl) rfl (fun _ _ _ hd h => ⟨hd, h⟩) (by simp) (by simp) F H ?_)
  clear F H
  intro A w F H
  show Code.wp _ _ _ _ _
  exact ab_sub (ex := [.const (.int .i64 4), .func 85]) (hp _ (.tail _ (.tail _ (.head _)))) rfl (fun _ => rfl) (by kernel_rfl) rfl (fun _ _ _ hd h => ⟨hd, h⟩) (by simp) (by simp) F H fun A w F H => ret_plain rfl F.2.1 (K _ _ H)⟩
theorem pblock_g : Rdg 174 [] Block.sc := pblock_wk.reads (by
 intro p hp
 rcases List.mem_cons.1 hp with rfl | hp
 ·exact pheader_g
 rcases List.mem_cons.1 hp with rfl | hp
 ·exact lTx_g (by decide)
 rw [List.mem_singleton.1 hp]
 exact lGuilt_g (by decide)) rfl
theorem pblock_w : Wtg 174 [] Block.sc := pblock_wk.writes (by
 intro p hp
 rcases List.mem_cons.1 hp with rfl | hp
 ·exact pheader_w
 rcases List.mem_cons.1 hp with rfl | hp
 ·exact lTx_w (by decide)
 rw [List.mem_singleton.1 hp]
 exact lGuilt_w (by decide)) rfl
theorem lCert_fn : ListFn 269 152 42 (Cert.sc : List Sc).length := .mk Tryz.func269 rfl rfl rfl (by kernel_rfl) (by kernel_rfl) (by kernel_rfl) (by kernel_rfl) (by decide) (by constructor <;> exact ⟨rfl, rfl, rfl⟩) (by constructor <;> exact ⟨rfl, rfl, rfl⟩)
theorem lCert_g {m : Int} (hm : 0 ≤ m ∧ m ≤ 1000) : Rdg 269 [.int .i64 m, .func (.func 55) #[] #[]] [.list m Cert.sc] := list_reads lCert_fn pcert_g (z := .agg (zArr Cert.sc)) (by kernel_rfl) rfl hm ⟨fun q => absurd (congrArg List.length q) (by decide), by decide⟩
theorem lCert_w {m : Int} (hm : 0 ≤ m ∧ m ≤ 1000) : Wtg 269 [.int .i64 m, .func (.func 55) #[] #[]] [.list m Cert.sc] := list_writes lCert_fn pcert_w hm
theorem pmotion_wk : Walks 235 [.many 124 187 2 numC, .one 174 [] Block.sc, .one 269 [.int .i64 1, .func (.func 55) #[] #[]] [.list 1 Cert.sc]] :=
 ⟨by kernel_rfl, fun S R b xb off w hp H K => ab_fn Tryz.func235 rfl rfl (by decide) H fun A F => by
  refine wp_seq (ab_many (hp _ (.head _)) rfl (by kernel_rfl) (by kernel_rfl) (by kernel_rfl) (by kernel_rfl) (by decide) rfl (fun _ _ _ hd h => ⟨hd, h⟩) (fun _ _ _ _ _ h => h) (by simp) (by simp) F H ?_)
  clear F H
  intro A w F H
  show Code.wp _ _ _ _ _
  refine wp_seq (ab_sub (ex := []) (hp _ (.tail _ (.head _))) rfl (fun _ => rfl) (by kernel_rfl) rfl (fun _ _ _ hd h => ⟨hd, h⟩) (by simp) (by simp) F H ?_)
  clear F H
  intro A w F H
  show Code.wp _ _ _ _ _
  exact ab_sub (ex := [.const (.int .i64 1), .func 55]) (hp _ (.tail _ (.tail _ (.head _)))) rfl (fun _ => rfl) (by kernel_rfl) rfl (fun _ _ _ hd h => ⟨hd, h⟩) (by simp) (by simp) F H fun A w F H => ret_plain rfl F.2.1 (K _ _ H)⟩
theorem pmotion_g : Rdg 235 [] Motion.sc := pmotion_wk.reads (by
 intro p hp
 rcases List.mem_cons.1 hp with rfl | hp
 ·exact ⟨by decide, .inl ⟨rfl, rfl, rfl⟩⟩
 rcases List.mem_cons.1 hp with rfl | hp
 ·exact pblock_g
 rw [List.mem_singleton.1 hp]
 exact lCert_g (by decide)) rfl
theorem pmotion_w : Wtg 235 [] Motion.sc := pmotion_wk.writes (by
 intro p hp
 rcases List.mem_cons.1 hp with rfl | hp
 ·exact ⟨by decide, .inl ⟨rfl, rfl, rfl⟩⟩
 rcases List.mem_cons.1 hp with rfl | hp
 ·exact pblock_w
 rw [List.mem_singleton.1 hp]
 exact lCert_w (by decide)) rfl
theorem pknown_wk : Walks 237 [.one 55 [] Cert.sc, .one 174 [] Block.sc] :=
 ⟨by kernel_rfl, fun S R b xb off w hp H K => ab_fn Tryz.func237 rfl rfl (by decide) H fun A F => by
  refine wp_seq (ab_sub (ex := []) (hp _ (.head _)) rfl (fun _ => rfl) (by kernel_rfl) rfl (fun _ _ _ hd h => ⟨hd, h⟩) (by simp) (by simp) F H ?_)
  clear F H
  intro A w F H
  show Code.wp _ _ _ _ _
  exact ab_sub (ex := []) (hp _ (.tail _ (.head _))) rfl (fun _ => rfl) (by kernel_rfl) rfl (fun _ _ _ hd h => ⟨hd, h⟩) (by simp) (by simp) F H fun A w F H => ret_plain rfl F.2.1 (K _ _ H)⟩
theorem pknown_g : Rdg 237 [] Known.sc := pknown_wk.reads (by
 intro p hp
 rcases List.mem_cons.1 hp with rfl | hp
 ·exact pcert_g
 rw [List.mem_singleton.1 hp]
 exact pblock_g) rfl
theorem pknown_w : Wtg 237 [] Known.sc := pknown_wk.writes (by
 intro p hp
 rcases List.mem_cons.1 hp with rfl | hp
 ·exact pcert_w
 rw [List.mem_singleton.1 hp]
 exact pblock_w) rfl
theorem lVote_fn : ListFn 233 144 36 (Vote.sc : List Sc).length := .mk Tryz.func233 rfl rfl rfl (by kernel_rfl) (by kernel_rfl) (by kernel_rfl) (by kernel_rfl) (by decide) (by constructor <;> exact ⟨rfl, rfl, rfl⟩) (by constructor <;> exact ⟨rfl, rfl, rfl⟩)
theorem lVote_g {m : Int} (hm : 0 ≤ m ∧ m ≤ 1000) : Rdg 233 [.int .i64 m, .func (.func 49) #[] #[]] [.list m Vote.sc] := list_reads lVote_fn pvote_g (z := .agg (zArr Vote.sc)) (by kernel_rfl) rfl hm ⟨fun q => absurd (congrArg List.length q) (by decide), by decide⟩
theorem lVote_w {m : Int} (hm : 0 ≤ m ∧ m ≤ 1000) : Wtg 233 [.int .i64 m, .func (.func 49) #[] #[]] [.list m Vote.sc] := list_writes lVote_fn pvote_w hm
theorem lMotion_fn : ListFn 234 145 154 (Motion.sc : List Sc).length := .mk Tryz.func234 rfl rfl rfl (by kernel_rfl) (by kernel_rfl) (by kernel_rfl) (by kernel_rfl) (by decide) (by constructor <;> exact ⟨rfl, rfl, rfl⟩) (by constructor <;> exact ⟨rfl, rfl, rfl⟩)
theorem lMotion_g {m : Int} (hm : 0 ≤ m ∧ m ≤ 1000) : Rdg 234 [.int .i64 m, .func (.func 235) #[] #[]] [.list m Motion.sc] := list_reads lMotion_fn pmotion_g (z := .agg (zArr Motion.sc)) (by kernel_rfl) rfl hm ⟨fun q => absurd (congrArg List.length q) (by decide), by decide⟩
theorem lMotion_w {m : Int} (hm : 0 ≤ m ∧ m ≤ 1000) : Wtg 234 [.int .i64 m, .func (.func 235) #[] #[]] [.list m Motion.sc] := list_writes lMotion_fn pmotion_w hm
theorem lKnown_fn : ListFn 236 146 156 (Known.sc : List Sc).length := .mk Tryz.func236 rfl rfl rfl (by kernel_rfl) (by kernel_rfl) (by kernel_rfl) (by kernel_rfl) (by decide) (by constructor <;> exact ⟨rfl, rfl, rfl⟩) (by constructor <;> exact ⟨rfl, rfl, rfl⟩)
theorem lKnown_g {m : Int} (hm : 0 ≤ m ∧ m ≤ 1000) : Rdg 236 [.int .i64 m, .func (.func 237) #[] #[]] [.list m Known.sc] := list_reads lKnown_fn pknown_g (z := .agg (zArr Known.sc)) (by kernel_rfl) rfl hm ⟨fun q => absurd (congrArg List.length q) (by decide), by decide⟩
theorem lKnown_w {m : Int} (hm : 0 ≤ m ∧ m ≤ 1000) : Wtg 236 [.int .i64 m, .func (.func 237) #[] #[]] [.list m Known.sc] := list_writes lKnown_fn pknown_w hm
theorem pmessage_wk : Walks 180 [.many 124 187 3 numC, .one 233 [.int .i64 512, .func (.func 49) #[] #[]] [.list 512 Vote.sc], .one 234 [.int .i64 2, .func (.func 235) #[] #[]] [.list 2 Motion.sc], .one 236 [.int .i64 2, .func (.func 237) #[] #[]] [.list 2 Known.sc], .one 227 [.int .i64 16, .func (.func 79) #[] #[]] [.list 16 Tx.sc]] :=
 ⟨by kernel_rfl, fun S R b xb off w hp H K => ab_fn Tryz.func180 rfl rfl (by decide) H fun A F => by
  refine wp_seq (ab_many (hp _ (.head _)) rfl (by kernel_rfl) (by kernel_rfl) (by kernel_rfl) (by kernel_rfl) (by decide) rfl (fun _ _ _ hd h => ⟨hd, h⟩) (fun _ _ _ _ _ h => h) (by simp) (by simp) F H ?_)
  clear F H
  intro A w F H
  show Code.wp _ _ _ _ _
  refine wp_seq (ab_sub (ex := [.const (.int .i64 512), .func 49]) (hp _ (.tail _ (.head _))) rfl (fun _ => rfl) (by kernel_rfl) rfl (fun _ _ _ hd h => ⟨hd, h⟩) (by simp) (by simp) F H ?_)
  clear F H
  intro A w F H
  show Code.wp _ _ _ _ _
  refine wp_seq (ab_sub (ex := [.const (.int .i64 2), .func 235]) (hp _ (.tail _ (.tail _ (.head _)))) rfl (fun _ => rfl) (by kernel_rfl) rfl (fun _ _ _ hd h => ⟨hd, h⟩) (by simp) (by simp) F H ?_)
  clear F H
  intro A w F H
  show Code.wp _ _ _ _ _
  refine wp_seq (ab_sub (ex := [.const (.int .i64 2), .func 237]) (hp _ (.tail _ (.tail _ (.tail _ (.head _))))) rfl (fun _ => rfl) (by kernel_rfl) rfl (fun _ _ _ hd h => ⟨hd, h⟩) (by simp) (by simp) F H ?_)
  clear F H
  intro A w F H
  show Code.wp _ _ _ _ _
  exact ab_sub (ex := [.const (.int .i64 16), .func 79]) (hp _ (.tail _ (.tail _ (.tail _ (.tail _ (.head _)))))) rfl (fun _ => rfl) (by kernel_rfl) rfl (fun _ _ _ hd h => ⟨hd, h⟩) (by simp) (by simp) F H fun A w F H => ret_plain rfl F.2.1 (K _ _ H)⟩
theorem pmessage_g : Rdg 180 [] Message.sc := pmessage_wk.reads (by
 intro p hp
 rcases List.mem_cons.1 hp with rfl | hp
 ·exact ⟨by decide, .inl ⟨rfl, rfl, rfl⟩⟩
 rcases List.mem_cons.1 hp with rfl | hp
 ·exact lVote_g (by decide)
 rcases List.mem_cons.1 hp with rfl | hp
 ·exact lMotion_g (by decide)
 rcases List.mem_cons.1 hp with rfl | hp
 ·exact lKnown_g (by decide)
 rw [List.mem_singleton.1 hp]
 exact lTx_g (by decide)) rfl
theorem pmessage_w : Wtg 180 [] Message.sc := pmessage_wk.writes (by
 intro p hp
 rcases List.mem_cons.1 hp with rfl | hp
 ·exact ⟨by decide, .inl ⟨rfl, rfl, rfl⟩⟩
 rcases List.mem_cons.1 hp with rfl | hp
 ·exact lVote_w (by decide)
 rcases List.mem_cons.1 hp with rfl | hp
 ·exact lMotion_w (by decide)
 rcases List.mem_cons.1 hp with rfl | hp
 ·exact lKnown_w (by decide)
 rw [List.mem_singleton.1 hp]
 exact lTx_w (by decide)) rfl
theorem paccount_wk : Walks 192 [.many 124 187 6 numC, .one 125 [] [.flag]] :=
 ⟨by kernel_rfl, fun S R b xb off w hp H K => ab_fn Tryz.func192 rfl rfl (by decide) H fun A F => by
  refine wp_seq (ab_many (hp _ (.head _)) rfl (by kernel_rfl) (by kernel_rfl) (by kernel_rfl) (by kernel_rfl) (by decide) rfl (fun _ _ _ hd h => ⟨hd, h⟩) (fun _ _ _ _ _ h => h) (by simp) (by simp) F H ?_)
  clear F H
  intro A w F H
  show Code.wp _ _ _ _ _
  exact ab_sub (ex := []) (hp _ (.tail _ (.head _))) rfl (fun _ => rfl) (by kernel_rfl) rfl (fun _ _ _ hd h => ⟨hd, h⟩) (by simp) (by simp) F H fun A w F H => ret_plain rfl F.2.1 (K _ _ H)⟩
theorem paccount_g : Rdg 192 [] accSc := paccount_wk.reads (by
 intro p hp
 rcases List.mem_cons.1 hp with rfl | hp
 ·exact ⟨by decide, .inl ⟨rfl, rfl, rfl⟩⟩
 rw [List.mem_singleton.1 hp]
 exact flag_g) rfl
theorem paccount_w : Wtg 192 [] accSc := paccount_wk.writes (by
 intro p hp
 rcases List.mem_cons.1 hp with rfl | hp
 ·exact ⟨by decide, .inl ⟨rfl, rfl, rfl⟩⟩
 rw [List.mem_singleton.1 hp]
 exact flag_w) rfl
theorem pparcel_wk : Walks 198 [.many 124 187 3 numC] :=
 ⟨by kernel_rfl, fun S R b xb off w hp H K => ab_fn Tryz.func198 rfl rfl (by decide) H fun A F => by
  exact ab_many (hp _ (.head _)) rfl (by kernel_rfl) (by kernel_rfl) (by kernel_rfl) (by kernel_rfl) (by decide) rfl (fun _ _ _ hd h => ⟨hd, h⟩) (fun _ _ _ _ _ h => h) (by simp) (by simp) F H fun A w F H => ret_plain rfl F.2.1 (K _ _ H)⟩
theorem pparcel_g : Rdg 198 [] parSc := pparcel_wk.reads (by
 intro p hp
 rw [List.mem_singleton.1 hp]
 exact ⟨by decide, .inl ⟨rfl, rfl, rfl⟩⟩) rfl
theorem pparcel_w : Wtg 198 [] parSc := pparcel_wk.writes (by
 intro p hp
 rw [List.mem_singleton.1 hp]
 exact ⟨by decide, .inl ⟨rfl, rfl, rfl⟩⟩) rfl
theorem pview_wk : Walks 203 [.many 124 187 4 numC, .one 126 [] [.dig], .one 61 [] [.list 7 pairSc]] :=
 ⟨by kernel_rfl, fun S R b xb off w hp H K => ab_fn Tryz.func203 rfl rfl (by decide) H fun A F => by
  refine wp_seq (ab_many (hp _ (.head _)) rfl (by kernel_rfl) (by kernel_rfl) (by kernel_rfl) (by kernel_rfl) (by decide) rfl (fun _ _ _ hd h => ⟨hd, h⟩) (fun _ _ _ _ _ h => h) (by simp) (by simp) F H ?_)
  clear F H
  intro A w F H
  show Code.wp _ _ _ _ _
  refine wp_seq (ab_sub (ex := []) (hp _ (.tail _ (.head _))) rfl (fun _ => rfl) (by kernel_rfl) rfl (fun _ _ _ hd h => ⟨hd, h⟩) (by simp) (by simp) F H ?_)
  clear F H
  intro A w F H
  show Code.wp _ _ _ _ _
  exact ab_sub (ex := []) (hp _ (.tail _ (.tail _ (.head _)))) rfl (fun _ => rfl) (by kernel_rfl) rfl (fun _ _ _ hd h => ⟨hd, h⟩) (by simp) (by simp) F H fun A w F H => ret_plain rfl F.2.1 (K _ _ H)⟩
theorem pview_g : Rdg 203 [] viewSc := pview_wk.reads (by
 intro p hp
 rcases List.mem_cons.1 hp with rfl | hp
 ·exact ⟨by decide, .inl ⟨rfl, rfl, rfl⟩⟩
 rcases List.mem_cons.1 hp with rfl | hp
 ·exact digest_g
 rw [List.mem_singleton.1 hp]
 exact pbench_g) rfl
theorem pview_w : Wtg 203 [] viewSc := pview_wk.writes (by
 intro p hp
 rcases List.mem_cons.1 hp with rfl | hp
 ·exact ⟨by decide, .inl ⟨rfl, rfl, rfl⟩⟩
 rcases List.mem_cons.1 hp with rfl | hp
 ·exact digest_w
 rw [List.mem_singleton.1 hp]
 exact pbench_w) rfl
theorem presult1_wk : Walks 263 [.many 124 187 2 numC] :=
 ⟨by kernel_rfl, fun S R b xb off w hp H K => ab_fn Tryz.func263 rfl rfl (by decide) H fun A F => by
  exact ab_many (hp _ (.head _)) rfl (by kernel_rfl) (by kernel_rfl) (by kernel_rfl) (by kernel_rfl) (by decide) rfl (fun _ _ _ hd h => ⟨hd, h⟩) (fun _ _ _ _ _ h => h) (by simp) (by simp) F H fun A w F H => ret_plain rfl F.2.1 (K _ _ H)⟩
theorem presult1_g : Rdg 263 [] pairSc := presult1_wk.reads (by
 intro p hp
 rw [List.mem_singleton.1 hp]
 exact ⟨by decide, .inl ⟨rfl, rfl, rfl⟩⟩) rfl
theorem presult1_w : Wtg 263 [] pairSc := presult1_wk.writes (by
 intro p hp
 rw [List.mem_singleton.1 hp]
 exact ⟨by decide, .inl ⟨rfl, rfl, rfl⟩⟩) rfl
theorem lNote_fn : ListFn 262 177 342 (pairSc : List Sc).length := .mk Tryz.func262 rfl rfl rfl (by kernel_rfl) (by kernel_rfl) (by kernel_rfl) (by kernel_rfl) (by decide) (by constructor <;> exact ⟨rfl, rfl, rfl⟩) (by constructor <;> exact ⟨rfl, rfl, rfl⟩)
theorem lNote_g {m : Int} (hm : 0 ≤ m ∧ m ≤ 1000) : Rdg 262 [.int .i64 m, .func (.func 263) #[] #[]] [.list m pairSc] := list_reads lNote_fn presult1_g (z := .agg (zArr pairSc)) (by kernel_rfl) rfl hm ⟨fun q => absurd (congrArg List.length q) (by decide), by decide⟩
theorem lNote_w {m : Int} (hm : 0 ≤ m ∧ m ≤ 1000) : Wtg 262 [.int .i64 m, .func (.func 263) #[] #[]] [.list m pairSc] := list_writes lNote_fn presult1_w hm
end Go.Proofs.YtackcbpabjhmpaaGreat
