import Derived.Test.YtackcbpabjhmpaaGreatM16
namespace Go.Proofs.YtackcbpabjhmpaaGreat
open Go.RowKit
set_option linter.unusedVariables false
set_option linter.unusedSimpArgs false
set_option maxRecDepth 4000 in
set_option maxHeartbeats 3200000 in
theorem gsight_c : RdC 167 [] .agg Sight.sc := by
 refine ⟨by kernel_rfl, fun _ _ => rfl, fun gb B a E w k ha hL => ?_⟩
 refine calls_of_wp Tryz.func167 rfl ?_
 refine st_open (SC := Sight.sc) (I rfl) (I rfl) (I rfl) (I rfl) rfl (by kernel_rfl) (by kernel_rfl) (fr_one (v := ptr gb) Tryz.ntmps167 (by decide)) k ha ?_
 have hg : gb < w.heap.size := Blk.lt k
 clear k ha
 intro A w1 F S R
 refine wp_seq (st_field gheader_c (I rfl) (I rfl) (I rfl) (I rfl) rfl (by kernel_rfl) (by kernel_rfl) (by decide) (by simp) (by simp) F S hL ?_)
 clear F
 intro A gs a1 E1 w2 F b S2
 have R := b.blk R (by omega)
 clear b S
 have S := S2
 clear S2
 refine wp_seq (st_field gcert_c (I rfl) (I rfl) (I rfl) (I rfl) rfl (by kernel_rfl) (by kernel_rfl) (by decide) (by simp) (by simp) F S hL ?_)
 clear F
 intro A gs a1 E1 w2 F b S2
 have R := b.blk R (by omega)
 clear b S
 have S := S2
 clear S2
 refine wp_seq (st_field gbench_c (I rfl) (I rfl) (I rfl) (I rfl) rfl (by kernel_rfl) (by kernel_rfl) (by decide) (by simp) (by simp) F S hL ?_)
 clear F
 intro A gs a1 E1 w2 F b S2
 have R := b.blk R (by omega)
 clear b S
 have S := S2
 clear S2
 exact st_close (SC := Sight.sc) (I rfl) (I rfl) Tryz.results167 (by kernel_rfl) (by kernel_rfl) (zArr_size _) rfl (by simp) (by simp) F S R (by omega)
set_option maxRecDepth 4000 in
set_option maxHeartbeats 3200000 in
theorem gtx_c : RdC 81 [] .agg Tx.sc := by
 refine ⟨by kernel_rfl, fun _ _ => rfl, fun gb B a E w k ha hL => ?_⟩
 refine calls_of_wp Tryz.func81 rfl ?_
 refine st_open (SC := Tx.sc) (I rfl) (I rfl) (I rfl) (I rfl) rfl (by kernel_rfl) (by kernel_rfl) (fr_one (v := ptr gb) Tryz.ntmps81 (by decide)) k ha ?_
 have hg : gb < w.heap.size := Blk.lt k
 clear k ha
 intro A w1 F S R
 refine wp_seq (st_field gnum_c (I rfl) (I rfl) (I rfl) (I rfl) rfl (by kernel_rfl) (by kernel_rfl) (by decide) (by simp) (by simp) F S hL ?_)
 clear F
 intro A gs a1 E1 w2 F b S2
 have R := b.blk R (by omega)
 clear b S
 have S := S2
 clear S2
 refine wp_seq (st_field gnum_c (I rfl) (I rfl) (I rfl) (I rfl) rfl (by kernel_rfl) (by kernel_rfl) (by decide) (by simp) (by simp) F S hL ?_)
 clear F
 intro A gs a1 E1 w2 F b S2
 have R := b.blk R (by omega)
 clear b S
 have S := S2
 clear S2
 refine wp_seq (st_field gnum_c (I rfl) (I rfl) (I rfl) (I rfl) rfl (by kernel_rfl) (by kernel_rfl) (by decide) (by simp) (by simp) F S hL ?_)
 clear F
 intro A gs a1 E1 w2 F b S2
 have R := b.blk R (by omega)
 clear b S
 have S := S2
 clear S2
 refine wp_seq (st_field gnum_c (I rfl) (I rfl) (I rfl) (I rfl) rfl (by kernel_rfl) (by kernel_rfl) (by decide) (by simp) (by simp) F S hL ?_)
 clear F
 intro A gs a1 E1 w2 F b S2
 have R := b.blk R (by omega)
 clear b S
 have S := S2
 clear S2
 refine wp_seq (st_field gnum_c (I rfl) (I rfl) (I rfl) (I rfl) rfl (by kernel_rfl) (by kernel_rfl) (by decide) (by simp) (by simp) F S hL ?_)
 clear F
 intro A gs a1 E1 w2 F b S2
 have R := b.blk R (by omega)
 clear b S
 have S := S2
 clear S2
 refine wp_seq (st_field gnum_c (I rfl) (I rfl) (I rfl) (I rfl) rfl (by kernel_rfl) (by kernel_rfl) (by decide) (by simp) (by simp) F S hL ?_)
 clear F
 intro A gs a1 E1 w2 F b S2
 have R := b.blk R (by omega)
 clear b S
 have S := S2
 clear S2
 refine wp_seq (st_field gnum_c (I rfl) (I rfl) (I rfl) (I rfl) rfl (by kernel_rfl) (by kernel_rfl) (by decide) (by simp) (by simp) F S hL ?_)
 clear F
 intro A gs a1 E1 w2 F b S2
 have R := b.blk R (by omega)
 clear b S
 have S := S2
 clear S2
 refine wp_seq (st_field (gtext_c 2048 (by decide)) (I rfl) (I rfl) (I rfl) (I rfl) rfl (by kernel_rfl) (by kernel_rfl) (by decide) (by simp) (by simp) F S hL ?_)
 clear F
 intro A gs a1 E1 w2 F b S2
 have R := b.blk R (by omega)
 clear b S
 have S := S2
 clear S2
 refine st_list (m := 8) (els := [numC]) (by decide) (fun n A w k a E Q F g K => ts_plain (k := k) (n := n) (I rfl) (I rfl) (I rfl) rfl (by simp) (by simp) F fun A' F' h => K A' _ F' h (fun q => by simpa using q) (fun q => .inl (by simpa using q))) (fun n u a1 E1 h0 hm hu1 hu2 hne => bd_cell (ety := 3) gnum_c (I rfl) (I rfl) (I rfl) (I rfl) (I rfl) (I rfl) (I rfl) (I rfl) (I rfl) (I rfl) rfl (fun _ => rfl) (fun _ _ => rfl) (by kernel_rfl) (by kernel_rfl) (by kernel_rfl) rfl (by decide) (by kernel_rfl) (by simp) (by simp) (by omega) hu1 hu2 hne (by rw [putAt_size, zArr_size]; decide) hL) (I rfl) (I rfl) (I rfl) (I rfl) (I rfl) (I rfl) (I rfl) rfl rfl (by simp) (by decide) F S hL ?_
 clear F
 intro A la lc es a1 E1 w2 F b S2
 have R := b.blk R (by omega)
 clear b S
 have S := S2
 clear S2
 refine st_list (m := 1) (els := Sight.sc) (by decide) (fun n A w k a E Q F g K => ts_plain (k := k) (n := n) (I rfl) (I rfl) (I rfl) rfl (by simp) (by simp) F fun A' F' h => K A' _ F' h (fun q => by simpa using q) (fun q => .inl (by simpa using q))) (fun n u a1 E1 h0 hm hu1 hu2 hne => bd_agg gsight_c (I rfl) (I rfl) (I rfl) (I rfl) (I rfl) (I rfl) (I rfl) (I rfl) (I rfl) (I rfl) (I rfl) rfl (fun _ => rfl) (fun _ _ => rfl) (by kernel_rfl) (by kernel_rfl) (by kernel_rfl) (by kernel_rfl) (by decide) (by kernel_rfl) (by simp) (by simp) (by omega) hu1 hu2 hne (by rw [putAt_size, zArr_size]; decide) hL) (I rfl) (I rfl) (I rfl) (I rfl) (I rfl) (I rfl) (I rfl) rfl rfl (by simp) (by decide) F S hL ?_
 clear F
 intro A la lc es a1 E1 w2 F b S2
 have R := b.blk R (by omega)
 clear b S
 have S := S2
 clear S2
 refine st_list (m := 1) (els := Proof.sc) (by decide) (fun n A w k a E Q F g K => ts_plain (k := k) (n := n) (I rfl) (I rfl) (I rfl) rfl (by simp) (by simp) F fun A' F' h => K A' _ F' h (fun q => by simpa using q) (fun q => .inl (by simpa using q))) (fun n u a1 E1 h0 hm hu1 hu2 hne => bd_agg gproof_c (I rfl) (I rfl) (I rfl) (I rfl) (I rfl) (I rfl) (I rfl) (I rfl) (I rfl) (I rfl) (I rfl) rfl (fun _ => rfl) (fun _ _ => rfl) (by kernel_rfl) (by kernel_rfl) (by kernel_rfl) (by kernel_rfl) (by decide) (by kernel_rfl) (by simp) (by simp) (by omega) hu1 hu2 hne (by rw [putAt_size, zArr_size]; decide) hL) (I rfl) (I rfl) (I rfl) (I rfl) (I rfl) (I rfl) (I rfl) rfl rfl (by simp) (by decide) F S hL ?_
 clear F
 intro A la lc es a1 E1 w2 F b S2
 have R := b.blk R (by omega)
 clear b S
 have S := S2
 clear S2
 exact st_close (SC := Tx.sc) (I rfl) (I rfl) Tryz.results81 (by kernel_rfl) (by kernel_rfl) (zArr_size _) rfl (by simp) (by simp) F S R (by omega)
set_option maxRecDepth 4000 in
set_option maxHeartbeats 3200000 in
theorem gblock_c : RdC 176 [] .agg Block.sc := by
 refine ⟨by kernel_rfl, fun _ _ => rfl, fun gb B a E w k ha hL => ?_⟩
 refine calls_of_wp Tryz.func176 rfl ?_
 refine st_open (SC := Block.sc) (I rfl) (I rfl) (I rfl) (I rfl) rfl (by kernel_rfl) (by kernel_rfl) (fr_one (v := ptr gb) Tryz.ntmps176 (by decide)) k ha ?_
 have hg : gb < w.heap.size := Blk.lt k
 clear k ha
 intro A w1 F S R
 refine wp_seq (st_field gheader_c (I rfl) (I rfl) (I rfl) (I rfl) rfl (by kernel_rfl) (by kernel_rfl) (by decide) (by simp) (by simp) F S hL ?_)
 clear F
 intro A gs a1 E1 w2 F b S2
 have R := b.blk R (by omega)
 clear b S
 have S := S2
 clear S2
 refine st_list (m := 16) (els := Tx.sc) (by decide) (fun n A w k a E Q F g K => ts_plain (k := k) (n := n) (I rfl) (I rfl) (I rfl) rfl (by simp) (by simp) F fun A' F' h => K A' _ F' h (fun q => by simpa using q) (fun q => .inl (by simpa using q))) (fun n u a1 E1 h0 hm hu1 hu2 hne => bd_agg gtx_c (I rfl) (I rfl) (I rfl) (I rfl) (I rfl) (I rfl) (I rfl) (I rfl) (I rfl) (I rfl) (I rfl) rfl (fun _ => rfl) (fun _ _ => rfl) (by kernel_rfl) (by kernel_rfl) (by kernel_rfl) (by kernel_rfl) (by decide) (by kernel_rfl) (by simp) (by simp) (by omega) hu1 hu2 hne (by rw [putAt_size, zArr_size]; decide) hL) (I rfl) (I rfl) (I rfl) (I rfl) (I rfl) (I rfl) (I rfl) rfl rfl (by simp) (by decide) F S hL ?_
 clear F
 intro A la lc es a1 E1 w2 F b S2
 have R := b.blk R (by omega)
 clear b S
 have S := S2
 clear S2
 refine st_list (m := 4) (els := Guilt.sc) (by decide) (fun n A w k a E Q F g K => ts_plain (k := k) (n := n) (I rfl) (I rfl) (I rfl) rfl (by simp) (by simp) F fun A' F' h => K A' _ F' h (fun q => by simpa using q) (fun q => .inl (by simpa using q))) (fun n u a1 E1 h0 hm hu1 hu2 hne => bd_agg gguilt_c (I rfl) (I rfl) (I rfl) (I rfl) (I rfl) (I rfl) (I rfl) (I rfl) (I rfl) (I rfl) (I rfl) rfl (fun _ => rfl) (fun _ _ => rfl) (by kernel_rfl) (by kernel_rfl) (by kernel_rfl) (by kernel_rfl) (by decide) (by kernel_rfl) (by simp) (by simp) (by omega) hu1 hu2 hne (by rw [putAt_size, zArr_size]; decide) hL) (I rfl) (I rfl) (I rfl) (I rfl) (I rfl) (I rfl) (I rfl) rfl rfl (by simp) (by decide) F S hL ?_
 clear F
 intro A la lc es a1 E1 w2 F b S2
 have R := b.blk R (by omega)
 clear b S
 have S := S2
 clear S2
 exact st_close (SC := Block.sc) (I rfl) (I rfl) Tryz.results176 (by kernel_rfl) (by kernel_rfl) (zArr_size _) rfl (by simp) (by simp) F S R (by omega)
set_option maxRecDepth 4000 in
set_option maxHeartbeats 3200000 in
theorem gmotion_c : RdC 243 [] .agg Motion.sc := by
 refine ⟨by kernel_rfl, fun _ _ => rfl, fun gb B a E w k ha hL => ?_⟩
 refine calls_of_wp Tryz.func243 rfl ?_
 refine st_open (SC := Motion.sc) (I rfl) (I rfl) (I rfl) (I rfl) rfl (by kernel_rfl) (by kernel_rfl) (fr_one (v := ptr gb) Tryz.ntmps243 (by decide)) k ha ?_
 have hg : gb < w.heap.size := Blk.lt k
 clear k ha
 intro A w1 F S R
 refine wp_seq (st_field gnum_c (I rfl) (I rfl) (I rfl) (I rfl) rfl (by kernel_rfl) (by kernel_rfl) (by decide) (by simp) (by simp) F S hL ?_)
 clear F
 intro A gs a1 E1 w2 F b S2
 have R := b.blk R (by omega)
 clear b S
 have S := S2
 clear S2
 refine wp_seq (st_field gnum_c (I rfl) (I rfl) (I rfl) (I rfl) rfl (by kernel_rfl) (by kernel_rfl) (by decide) (by simp) (by simp) F S hL ?_)
 clear F
 intro A gs a1 E1 w2 F b S2
 have R := b.blk R (by omega)
 clear b S
 have S := S2
 clear S2
 refine wp_seq (st_field gblock_c (I rfl) (I rfl) (I rfl) (I rfl) rfl (by kernel_rfl) (by kernel_rfl) (by decide) (by simp) (by simp) F S hL ?_)
 clear F
 intro A gs a1 E1 w2 F b S2
 have R := b.blk R (by omega)
 clear b S
 have S := S2
 clear S2
 refine st_list (m := 1) (els := Cert.sc) (by decide) (fun n A w k a E Q F g K => ts_plain (k := k) (n := n) (I rfl) (I rfl) (I rfl) rfl (by simp) (by simp) F fun A' F' h => K A' _ F' h (fun q => by simpa using q) (fun q => .inl (by simpa using q))) (fun n u a1 E1 h0 hm hu1 hu2 hne => bd_agg gcert_c (I rfl) (I rfl) (I rfl) (I rfl) (I rfl) (I rfl) (I rfl) (I rfl) (I rfl) (I rfl) (I rfl) rfl (fun _ => rfl) (fun _ _ => rfl) (by kernel_rfl) (by kernel_rfl) (by kernel_rfl) (by kernel_rfl) (by decide) (by kernel_rfl) (by simp) (by simp) (by omega) hu1 hu2 hne (by rw [putAt_size, zArr_size]; decide) hL) (I rfl) (I rfl) (I rfl) (I rfl) (I rfl) (I rfl) (I rfl) rfl rfl (by simp) (by decide) F S hL ?_
 clear F
 intro A la lc es a1 E1 w2 F b S2
 have R := b.blk R (by omega)
 clear b S
 have S := S2
 clear S2
 exact st_close (SC := Motion.sc) (I rfl) (I rfl) Tryz.results243 (by kernel_rfl) (by kernel_rfl) (zArr_size _) rfl (by simp) (by simp) F S R (by omega)
set_option maxRecDepth 4000 in
set_option maxHeartbeats 3200000 in
theorem gknown_c : RdC 244 [] .agg Known.sc := by
 refine ⟨by kernel_rfl, fun _ _ => rfl, fun gb B a E w k ha hL => ?_⟩
 refine calls_of_wp Tryz.func244 rfl ?_
 refine st_open (SC := Known.sc) (I rfl) (I rfl) (I rfl) (I rfl) rfl (by kernel_rfl) (by kernel_rfl) (fr_one (v := ptr gb) Tryz.ntmps244 (by decide)) k ha ?_
 have hg : gb < w.heap.size := Blk.lt k
 clear k ha
 intro A w1 F S R
 refine wp_seq (st_field gcert_c (I rfl) (I rfl) (I rfl) (I rfl) rfl (by kernel_rfl) (by kernel_rfl) (by decide) (by simp) (by simp) F S hL ?_)
 clear F
 intro A gs a1 E1 w2 F b S2
 have R := b.blk R (by omega)
 clear b S
 have S := S2
 clear S2
 refine wp_seq (st_field gblock_c (I rfl) (I rfl) (I rfl) (I rfl) rfl (by kernel_rfl) (by kernel_rfl) (by decide) (by simp) (by simp) F S hL ?_)
 clear F
 intro A gs a1 E1 w2 F b S2
 have R := b.blk R (by omega)
 clear b S
 have S := S2
 clear S2
 exact st_close (SC := Known.sc) (I rfl) (I rfl) Tryz.results244 (by kernel_rfl) (by kernel_rfl) (zArr_size _) rfl (by simp) (by simp) F S R (by omega)
set_option maxRecDepth 4000 in
set_option maxHeartbeats 3200000 in
theorem gmessage_c : RdC 182 [] .agg Message.sc := by
 refine ⟨by kernel_rfl, fun _ _ => rfl, fun gb B a E w k ha hL => ?_⟩
 refine calls_of_wp Tryz.func182 rfl ?_
 refine st_open (SC := Message.sc) (I rfl) (I rfl) (I rfl) (I rfl) rfl (by kernel_rfl) (by kernel_rfl) (fr_one (v := ptr gb) Tryz.ntmps182 (by decide)) k ha ?_
 have hg : gb < w.heap.size := Blk.lt k
 clear k ha
 intro A w1 F S R
 refine wp_seq (st_field gnum_c (I rfl) (I rfl) (I rfl) (I rfl) rfl (by kernel_rfl) (by kernel_rfl) (by decide) (by simp) (by simp) F S hL ?_)
 clear F
 intro A gs a1 E1 w2 F b S2
 have R := b.blk R (by omega)
 clear b S
 have S := S2
 clear S2
 refine wp_seq (st_field gnum_c (I rfl) (I rfl) (I rfl) (I rfl) rfl (by kernel_rfl) (by kernel_rfl) (by decide) (by simp) (by simp) F S hL ?_)
 clear F
 intro A gs a1 E1 w2 F b S2
 have R := b.blk R (by omega)
 clear b S
 have S := S2
 clear S2
 refine wp_seq (st_field gnum_c (I rfl) (I rfl) (I rfl) (I rfl) rfl (by kernel_rfl) (by kernel_rfl) (by decide) (by simp) (by simp) F S hL ?_)
 clear F
 intro A gs a1 E1 w2 F b S2
 have R := b.blk R (by omega)
 clear b S
 have S := S2
 clear S2
 refine st_list (m := 512) (els := Vote.sc) (by decide) (fun n A w k a E Q F g K => ts_guard (k := k) (n := n) (I rfl) (I rfl) (I rfl) (I rfl) (I rfl) (I rfl) (I rfl) (I rfl) (I rfl) (I rfl) rfl Tryz.underlying22 rfl (by kernel_rfl) (by simp) (by simp) (by simp) F g fun A' F' h => K A' _ F' h (fun q => by simp at q; exact q.1) (fun q => by simp at q; by_cases h : n ≤ k; exact .inl h; exact .inr (q (by omega)))) (fun n u a1 E1 h0 hm hu1 hu2 hne => bd_agg gvote_c (I rfl) (I rfl) (I rfl) (I rfl) (I rfl) (I rfl) (I rfl) (I rfl) (I rfl) (I rfl) (I rfl) rfl (fun _ => rfl) (fun _ _ => rfl) (by kernel_rfl) (by kernel_rfl) (by kernel_rfl) (by kernel_rfl) (by decide) (by kernel_rfl) (by simp) (by simp) (by omega) hu1 hu2 hne (by rw [putAt_size, zArr_size]; decide) hL) (I rfl) (I rfl) (I rfl) (I rfl) (I rfl) (I rfl) (I rfl) rfl rfl (by simp) (by decide) F S hL ?_
 clear F
 intro A la lc es a1 E1 w2 F b S2
 have R := b.blk R (by omega)
 clear b S
 have S := S2
 clear S2
 refine st_list (m := 2) (els := Motion.sc) (by decide) (fun n A w k a E Q F g K => ts_plain (k := k) (n := n) (I rfl) (I rfl) (I rfl) rfl (by simp) (by simp) F fun A' F' h => K A' _ F' h (fun q => by simpa using q) (fun q => .inl (by simpa using q))) (fun n u a1 E1 h0 hm hu1 hu2 hne => bd_agg gmotion_c (I rfl) (I rfl) (I rfl) (I rfl) (I rfl) (I rfl) (I rfl) (I rfl) (I rfl) (I rfl) (I rfl) rfl (fun _ => rfl) (fun _ _ => rfl) (by kernel_rfl) (by kernel_rfl) (by kernel_rfl) (by kernel_rfl) (by decide) (by kernel_rfl) (by simp) (by simp) (by omega) hu1 hu2 hne (by rw [putAt_size, zArr_size]; decide) hL) (I rfl) (I rfl) (I rfl) (I rfl) (I rfl) (I rfl) (I rfl) rfl rfl (by simp) (by decide) F S hL ?_
 clear F
 intro A la lc es a1 E1 w2 F b S2
 have R := b.blk R (by omega)
 clear b S
 have S := S2
 clear S2
 refine st_list (m := 2) (els := Known.sc) (by decide) (fun n A w k a E Q F g K => ts_plain (k := k) (n := n) (I rfl) (I rfl) (I rfl) rfl (by simp) (by simp) F fun A' F' h => K A' _ F' h (fun q => by simpa using q) (fun q => .inl (by simpa using q))) (fun n u a1 E1 h0 hm hu1 hu2 hne => bd_agg gknown_c (I rfl) (I rfl) (I rfl) (I rfl) (I rfl) (I rfl) (I rfl) (I rfl) (I rfl) (I rfl) (I rfl) rfl (fun _ => rfl) (fun _ _ => rfl) (by kernel_rfl) (by kernel_rfl) (by kernel_rfl) (by kernel_rfl) (by decide) (by kernel_rfl) (by simp) (by simp) (by omega) hu1 hu2 hne (by rw [putAt_size, zArr_size]; decide) hL) (I rfl) (I rfl) (I rfl) (I rfl) (I rfl) (I rfl) (I rfl) rfl rfl (by simp) (by decide) F S hL ?_
 clear F
 intro A la lc es a1 E1 w2 F b S2
 have R := b.blk R (by omega)
 clear b S
 have S := S2
 clear S2
 refine st_list (m := 16) (els := Tx.sc) (by decide) (fun n A w k a E Q F g K => ts_plain (k := k) (n := n) (I rfl) (I rfl) (I rfl) rfl (by simp) (by simp) F fun A' F' h => K A' _ F' h (fun q => by simpa using q) (fun q => .inl (by simpa using q))) (fun n u a1 E1 h0 hm hu1 hu2 hne => bd_agg gtx_c (I rfl) (I rfl) (I rfl) (I rfl) (I rfl) (I rfl) (I rfl) (I rfl) (I rfl) (I rfl) (I rfl) rfl (fun _ => rfl) (fun _ _ => rfl) (by kernel_rfl) (by kernel_rfl) (by kernel_rfl) (by kernel_rfl) (by decide) (by kernel_rfl) (by simp) (by simp) (by omega) hu1 hu2 hne (by rw [putAt_size, zArr_size]; decide) hL) (I rfl) (I rfl) (I rfl) (I rfl) (I rfl) (I rfl) (I rfl) rfl rfl (by simp) (by decide) F S hL ?_
 clear F
 intro A la lc es a1 E1 w2 F b S2
 have R := b.blk R (by omega)
 clear b S
 have S := S2
 clear S2
 exact st_close (SC := Message.sc) (I rfl) (I rfl) Tryz.results182 (by kernel_rfl) (by kernel_rfl) (zArr_size _) rfl (by simp) (by simp) F S R (by omega)
end Go.Proofs.YtackcbpabjhmpaaGreat
