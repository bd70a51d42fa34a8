import Derived.Test.YtackcbpabjhmpaaGreatM46
import Derived.Test.YtackcbpabjhmpaaGreatM45
namespace Go.Proofs.YtackcbpabjhmpaaGreat
open Go.RowKit
set_option linter.unusedVariables false
set_option linter.unusedSimpArgs false
theorem precord_x : WalkX 186 recordK := ⟨by kernel_rfl, fun b xb t s w h1 h2 h3 h4 => (precord_rd b xb (zArr recZ) t s w ⟨h1, h2, h3, zArr_zero _, h4⟩).mono fun e w' ⟨q1, q2⟩ => ⟨q1, by
  rcases q2 with ⟨er, e1, e2⟩ | ⟨k, fs, r, e1, e2, e3, e4, e5, e6⟩
  ·refine .inl ⟨er, by show rdRec s = _; unfold rdRec; rw [e1], ?_, e2⟩
   unfold readRec at e1
   cases hn : numP 1099511627775 s with
   | error x =>
    rw [hn] at e1
    injection e1 with e1
    rw [← e1]
    exact numP_ne hn
   | ok p =>
    obtain ⟨k, r⟩ := p
    rw [hn] at e1
    simp only at e1
    cases hr : readAll (recSc k) r with
    | error x =>
     rw [hr] at e1
     injection e1 with e1
     rw [← e1]
     exact readAll_ne _ _ _ hr
    | ok p => rw [hr] at e1; cases e1
  ·have hk : fitsAll [numC] [.i k] := by
    unfold readRec at e1
    cases hn : numP 1099511627775 s with
    | error x => rw [hn] at e1; cases e1
    | ok p =>
     obtain ⟨k', r'⟩ := p
     rw [hn] at e1
     simp only at e1
     cases hr : readAll (recSc k') r' with
     | error x => rw [hr] at e1; cases e1
     | ok p =>
      obtain ⟨us, q⟩ := p
      rw [hr] at e1
      injection e1 with e1
      injection e1 with e1 _
      injection e1 with e1 _
      subst e1
      obtain ⟨_, b1, b2, _⟩ := numP_back hn
      simp [fitsAll, Sc.fits, b1, b2]
   exact .inr ⟨recFs k fs, r, by show rdRec s = _; unfold rdRec; rw [e1, recFs_pv], recFs_fit hk e2, e3, e4, by rw [← rec_vals (fits_len e2)]; exact e5, recFs_lie hk e6⟩⟩⟩
theorem mayRecord_x : MayX 187 recordK := ⟨by kernel_rfl, fun lo fs w hfit hl => by
 obtain ⟨x, rfl⟩ := Record.of fs hfit
 obtain ⟨w1, w2, w3⟩ := Record.wts hfit
 show Calls _ _ #[.agg (x.flds.map Fld.val).toArray] _ _
 rw [← Record.vals]
 refine (mayRecord_anyX x w hl.goods w2 w3).mono ?_
 rintro e w' ⟨rfl, hb⟩
 exact ⟨x.may, rfl, (mayRec x).symm, hb⟩⟩
theorem pvote_x : WalkX 49 voteK := walk_of rfl (by kernel_rfl) fun b xb cs t s w h => pvote_g.2 b xb 0 cs t s w h
theorem mayVote_x : MayX 50 voteK := may_of Vote.of Vote.mpv (by kernel_rfl) fun x w h g => by rw [← Vote.vals]; exact mayVote_anyX x w g
set_option maxRecDepth 4000 in
set_option maxHeartbeats 1600000 in
theorem wgetVote_c : GetC 11 voteK := face_x (fun s w hs => get_x pvote_x mayVote_x rfl (by kernel_rfl) Tryz.func48 Tryz.ntmps48 Tryz.results48 rfl (by constructor <;> exact ⟨rfl, rfl, rfl⟩) (by kernel_rfl) (by kernel_rfl) (by kernel_rfl) (by kernel_rfl) Tryz.func123 rfl Tryz.ntmps123 Tryz.results123 (I rfl) (I rfl) (I rfl) (I rfl) (I rfl) (by kernel_rfl) (by kernel_rfl) s w hs) (by kernel_rfl) (by kernel_rfl) rfl Tryz.func11 Tryz.ntmps11 Tryz.results11 rfl (I rfl) (I rfl) (I rfl) (I rfl) (I rfl) (I rfl) (I rfl) (I rfl) (by kernel_rfl) (by kernel_rfl)
theorem pcert_x : WalkX 55 certK := walk_of rfl (by kernel_rfl) fun b xb cs t s w h => pcert_g.2 b xb 0 cs t s w h
theorem mayCert_x : MayX 56 certK := may_of Cert.of (fun a b q => (Cert.mpv a b q).1) (by kernel_rfl) fun x w h g => by rw [← Cert.vals]; exact mayCert_anyX x w g
set_option maxRecDepth 4000 in
set_option maxHeartbeats 1600000 in
theorem wgetCert_c : GetC 15 certK := face_x (fun s w hs => get_x pcert_x mayCert_x rfl (by kernel_rfl) Tryz.func54 Tryz.ntmps54 Tryz.results54 rfl (by constructor <;> exact ⟨rfl, rfl, rfl⟩) (by kernel_rfl) (by kernel_rfl) (by kernel_rfl) (by kernel_rfl) Tryz.func133 rfl Tryz.ntmps133 Tryz.results133 (I rfl) (I rfl) (I rfl) (I rfl) (I rfl) (by kernel_rfl) (by kernel_rfl) s w hs) (by kernel_rfl) (by kernel_rfl) rfl Tryz.func15 Tryz.ntmps15 Tryz.results15 rfl (I rfl) (I rfl) (I rfl) (I rfl) (I rfl) (I rfl) (I rfl) (I rfl) (by kernel_rfl) (by kernel_rfl)
theorem pheader_x : WalkX 67 headerK := walk_of rfl (by kernel_rfl) fun b xb cs t s w h => pheader_g.2 b xb 0 cs t s w h
theorem anyHeader_x : MayX 68 headerK := may_of Header.of (fun _ _ _ => rfl) (by kernel_rfl) fun x w h g => by rw [← Header.vals]; exact anyHeader_any x w
set_option maxRecDepth 4000 in
set_option maxHeartbeats 1600000 in
theorem wgetHeader_c : GetC 23 headerK := face_x (fun s w hs => get_x pheader_x anyHeader_x rfl (by kernel_rfl) Tryz.func66 Tryz.ntmps66 Tryz.results66 rfl (by constructor <;> exact ⟨rfl, rfl, rfl⟩) (by kernel_rfl) (by kernel_rfl) (by kernel_rfl) (by kernel_rfl) Tryz.func147 rfl Tryz.ntmps147 Tryz.results147 (I rfl) (I rfl) (I rfl) (I rfl) (I rfl) (by kernel_rfl) (by kernel_rfl) s w hs) (by kernel_rfl) (by kernel_rfl) rfl Tryz.func23 Tryz.ntmps23 Tryz.results23 rfl (I rfl) (I rfl) (I rfl) (I rfl) (I rfl) (I rfl) (I rfl) (I rfl) (by kernel_rfl) (by kernel_rfl)
theorem pproof_x : WalkX 73 proofK := walk_of rfl (by kernel_rfl) fun b xb cs t s w h => pproof_g.2 b xb 0 cs t s w h
theorem mayProof_x : MayX 74 proofK := may_of Proof.of Proof.mpv (by kernel_rfl) fun x w h g => by rw [← Proof.vals]; exact mayProof_anyX x w g
set_option maxRecDepth 4000 in
set_option maxHeartbeats 1600000 in
theorem wgetProof_c : GetC 27 proofK := face_x (fun s w hs => get_x pproof_x mayProof_x rfl (by kernel_rfl) Tryz.func72 Tryz.ntmps72 Tryz.results72 rfl (by constructor <;> exact ⟨rfl, rfl, rfl⟩) (by kernel_rfl) (by kernel_rfl) (by kernel_rfl) (by kernel_rfl) Tryz.func150 rfl Tryz.ntmps150 Tryz.results150 (I rfl) (I rfl) (I rfl) (I rfl) (I rfl) (by kernel_rfl) (by kernel_rfl) s w hs) (by kernel_rfl) (by kernel_rfl) rfl Tryz.func27 Tryz.ntmps27 Tryz.results27 rfl (I rfl) (I rfl) (I rfl) (I rfl) (I rfl) (I rfl) (I rfl) (I rfl) (by kernel_rfl) (by kernel_rfl)
theorem ptx_x : WalkX 79 txK := walk_of rfl (by kernel_rfl) fun b xb cs t s w h => ptx_g.2 b xb 0 cs t s w h
theorem mayTx_x : MayX 80 txK := may_of Tx.of Tx.mpv (by kernel_rfl) fun x w h g => by rw [← Tx.vals]; exact mayTx_anyX x w g (Tx.seats h)
set_option maxRecDepth 4000 in
set_option maxHeartbeats 1600000 in
theorem wgetTx_c : GetC 31 txK := face_x (fun s w hs => get_x ptx_x mayTx_x rfl (by kernel_rfl) Tryz.func78 Tryz.ntmps78 Tryz.results78 rfl (by constructor <;> exact ⟨rfl, rfl, rfl⟩) (by kernel_rfl) (by kernel_rfl) (by kernel_rfl) (by kernel_rfl) Tryz.func159 rfl Tryz.ntmps159 Tryz.results159 (I rfl) (I rfl) (I rfl) (I rfl) (I rfl) (by kernel_rfl) (by kernel_rfl) s w hs) (by kernel_rfl) (by kernel_rfl) rfl Tryz.func31 Tryz.ntmps31 Tryz.results31 rfl (I rfl) (I rfl) (I rfl) (I rfl) (I rfl) (I rfl) (I rfl) (I rfl) (by kernel_rfl) (by kernel_rfl)
theorem pguilt_x : WalkX 85 guiltK := walk_of rfl (by kernel_rfl) fun b xb cs t s w h => pguilt_g.2 b xb 0 cs t s w h
theorem mayGuilt_x : MayX 86 guiltK := may_of Guilt.of Guilt.mpv (by kernel_rfl) fun x w h g => by rw [← Guilt.vals]; exact mayGuilt_anyX x w g
set_option maxRecDepth 4000 in
set_option maxHeartbeats 1600000 in
theorem wgetGuilt_c : GetC 35 guiltK := face_x (fun s w hs => get_x pguilt_x mayGuilt_x rfl (by kernel_rfl) Tryz.func84 Tryz.ntmps84 Tryz.results84 rfl (by constructor <;> exact ⟨rfl, rfl, rfl⟩) (by kernel_rfl) (by kernel_rfl) (by kernel_rfl) (by kernel_rfl) Tryz.func171 rfl Tryz.ntmps171 Tryz.results171 (I rfl) (I rfl) (I rfl) (I rfl) (I rfl) (by kernel_rfl) (by kernel_rfl) s w hs) (by kernel_rfl) (by kernel_rfl) rfl Tryz.func35 Tryz.ntmps35 Tryz.results35 rfl (I rfl) (I rfl) (I rfl) (I rfl) (I rfl) (I rfl) (I rfl) (I rfl) (by kernel_rfl) (by kernel_rfl)
theorem pblock_x : WalkX 174 blockK := walk_of rfl (by kernel_rfl) fun b xb cs t s w h => pblock_g.2 b xb 0 cs t s w h
theorem mayBlock_x : MayX 175 blockK := may_of Block.of (fun a b q => (Block.mpv a b q).1) (by kernel_rfl) fun x w h g => by rw [← Block.vals]; exact mayBlock_anyX x w g (Block.txs h)
set_option maxRecDepth 4000 in
set_option maxHeartbeats 1600000 in
theorem wgetBlock_c : GetC 89 blockK := face_x (fun s w hs => get_x pblock_x mayBlock_x rfl (by kernel_rfl) Tryz.func173 Tryz.ntmps173 Tryz.results173 rfl (by constructor <;> exact ⟨rfl, rfl, rfl⟩) (by kernel_rfl) (by kernel_rfl) (by kernel_rfl) (by kernel_rfl) Tryz.func226 rfl Tryz.ntmps226 Tryz.results226 (I rfl) (I rfl) (I rfl) (I rfl) (I rfl) (by kernel_rfl) (by kernel_rfl) s w hs) (by kernel_rfl) (by kernel_rfl) rfl Tryz.func89 Tryz.ntmps89 Tryz.results89 rfl (I rfl) (I rfl) (I rfl) (I rfl) (I rfl) (I rfl) (I rfl) (I rfl) (by kernel_rfl) (by kernel_rfl)
theorem pmessage_x : WalkX 180 messageK := walk_of rfl (by kernel_rfl) fun b xb cs t s w h => pmessage_g.2 b xb 0 cs t s w h
theorem mayMessage_x : MayX 181 messageK := may_of Message.of Message.mpv (by kernel_rfl) fun x w h g => by rw [← Message.vals]; exact mayMessage_anyX x w g (Message.wt_le h)
set_option maxRecDepth 4000 in
set_option maxHeartbeats 1600000 in
theorem wgetMessage_c : GetC 93 messageK := face_x (fun s w hs => get_x pmessage_x mayMessage_x rfl (by kernel_rfl) Tryz.func179 Tryz.ntmps179 Tryz.results179 rfl (by constructor <;> exact ⟨rfl, rfl, rfl⟩) (by kernel_rfl) (by kernel_rfl) (by kernel_rfl) (by kernel_rfl) Tryz.func232 rfl Tryz.ntmps232 Tryz.results232 (I rfl) (I rfl) (I rfl) (I rfl) (I rfl) (by kernel_rfl) (by kernel_rfl) s w hs) (by kernel_rfl) (by kernel_rfl) rfl Tryz.func93 Tryz.ntmps93 Tryz.results93 rfl (I rfl) (I rfl) (I rfl) (I rfl) (I rfl) (I rfl) (I rfl) (I rfl) (by kernel_rfl) (by kernel_rfl)
theorem paccount_x : WalkX 192 accountK := walk_of rfl (by kernel_rfl) fun b xb cs t s w h => paccount_g.2 b xb 0 cs t s w h
theorem anyAccount_x : MayX 193 accountK := may_of Acc.of (fun _ _ _ => rfl) (by kernel_rfl) fun x w h g => by rw [← Acc.vals]; exact anyAccount_anyX x w
set_option maxRecDepth 4000 in
set_option maxHeartbeats 1600000 in
theorem wgetAccount_c : GetC 101 accountK := face_x (fun s w hs => get_x paccount_x anyAccount_x rfl (by kernel_rfl) Tryz.func191 Tryz.ntmps191 Tryz.results191 rfl (by constructor <;> exact ⟨rfl, rfl, rfl⟩) (by kernel_rfl) (by kernel_rfl) (by kernel_rfl) (by kernel_rfl) Tryz.func255 rfl Tryz.ntmps255 Tryz.results255 (I rfl) (I rfl) (I rfl) (I rfl) (I rfl) (by kernel_rfl) (by kernel_rfl) s w hs) (by kernel_rfl) (by kernel_rfl) rfl Tryz.func101 Tryz.ntmps101 Tryz.results101 rfl (I rfl) (I rfl) (I rfl) (I rfl) (I rfl) (I rfl) (I rfl) (I rfl) (by kernel_rfl) (by kernel_rfl)
theorem pparcel_x : WalkX 198 parcelK := walk_of rfl (by kernel_rfl) fun b xb cs t s w h => pparcel_g.2 b xb 0 cs t s w h
theorem mayParcel_x : MayX 199 parcelK := may_of Par.of Par.mpv (by kernel_rfl) fun x w h g => by rw [← Par.vals]; exact mayParcel_anyX x w
set_option maxRecDepth 4000 in
set_option maxHeartbeats 1600000 in
theorem wgetParcel_c : GetC 105 parcelK := face_x (fun s w hs => get_x pparcel_x mayParcel_x rfl (by kernel_rfl) Tryz.func197 Tryz.ntmps197 Tryz.results197 rfl (by constructor <;> exact ⟨rfl, rfl, rfl⟩) (by kernel_rfl) (by kernel_rfl) (by kernel_rfl) (by kernel_rfl) Tryz.func257 rfl Tryz.ntmps257 Tryz.results257 (I rfl) (I rfl) (I rfl) (I rfl) (I rfl) (by kernel_rfl) (by kernel_rfl) s w hs) (by kernel_rfl) (by kernel_rfl) rfl Tryz.func105 Tryz.ntmps105 Tryz.results105 rfl (I rfl) (I rfl) (I rfl) (I rfl) (I rfl) (I rfl) (I rfl) (I rfl) (by kernel_rfl) (by kernel_rfl)
theorem pview_x : WalkX 203 viewK := walk_of rfl (by kernel_rfl) fun b xb cs t s w h => pview_g.2 b xb 0 cs t s w h
theorem mayView_x : MayX 204 viewK := may_of Vw.of Vw.mpv (by kernel_rfl) fun x w h g => by rw [← Vw.vals]; exact mayView_anyX x w g (Vw.seats h)
set_option maxRecDepth 4000 in
set_option maxHeartbeats 1600000 in
theorem wgetView_c : GetC 109 viewK := face_x (fun s w hs => get_x pview_x mayView_x rfl (by kernel_rfl) Tryz.func202 Tryz.ntmps202 Tryz.results202 rfl (by constructor <;> exact ⟨rfl, rfl, rfl⟩) (by kernel_rfl) (by kernel_rfl) (by kernel_rfl) (by kernel_rfl) Tryz.func259 rfl Tryz.ntmps259 Tryz.results259 (I rfl) (I rfl) (I rfl) (I rfl) (I rfl) (by kernel_rfl) (by kernel_rfl) s w hs) (by kernel_rfl) (by kernel_rfl) rfl Tryz.func109 Tryz.ntmps109 Tryz.results109 rfl (I rfl) (I rfl) (I rfl) (I rfl) (I rfl) (I rfl) (I rfl) (I rfl) (by kernel_rfl) (by kernel_rfl)
theorem anyResult_x : MayX 210 resultK := may_of Rsl.of (fun _ _ _ => rfl) (by kernel_rfl) fun x w h g => by rw [← Rsl.vals]; exact anyResult_any x.co x.us x.va x.no.la x.no.xs.length x.no.lc w
set_option maxRecDepth 4000 in
set_option maxHeartbeats 1600000 in
theorem wgetResult_c : GetC 113 resultK := face_x (fun s w hs => get_x presult_x anyResult_x rfl (by kernel_rfl) Tryz.func208 Tryz.ntmps208 Tryz.results208 rfl (by constructor <;> exact ⟨rfl, rfl, rfl⟩) (by kernel_rfl) (by kernel_rfl) (by kernel_rfl) (by kernel_rfl) Tryz.func261 rfl Tryz.ntmps261 Tryz.results261 (I rfl) (I rfl) (I rfl) (I rfl) (I rfl) (by kernel_rfl) (by kernel_rfl) s w hs) (by kernel_rfl) (by kernel_rfl) rfl Tryz.func113 Tryz.ntmps113 Tryz.results113 rfl (I rfl) (I rfl) (I rfl) (I rfl) (I rfl) (I rfl) (I rfl) (I rfl) (by kernel_rfl) (by kernel_rfl)
set_option maxRecDepth 4000 in
set_option maxHeartbeats 1600000 in
theorem wgetRecord_c : GetC 97 recordK := face_x (fun s w hs => get_x precord_x mayRecord_x rfl (by kernel_rfl) Tryz.func185 Tryz.ntmps185 Tryz.results185 rfl (by constructor <;> exact ⟨rfl, rfl, rfl⟩) (by kernel_rfl) (by kernel_rfl) (by kernel_rfl) (by kernel_rfl) Tryz.func248 rfl Tryz.ntmps248 Tryz.results248 (I rfl) (I rfl) (I rfl) (I rfl) (I rfl) (by kernel_rfl) (by kernel_rfl) s w hs) (by kernel_rfl) (by kernel_rfl) rfl Tryz.func97 Tryz.ntmps97 Tryz.results97 rfl (I rfl) (I rfl) (I rfl) (I rfl) (I rfl) (I rfl) (I rfl) (I rfl) (by kernel_rfl) (by kernel_rfl)
theorem wputHeader_n : PutC 25 headerK := face_p (put_p (tpp := 76) (pheader_w.walkW (fun _ => rfl) (Nat.le_of_ble_eq_true (by kernel_rfl))) anyHeader_x (load_agg (ty := 51) rfl (by kernel_rfl) (by kernel_rfl)) (fun _ _ => rfl) (by decide) Tryz.func70 rfl rfl rfl (by constructor <;> exact ⟨rfl, rfl, rfl⟩) (by kernel_rfl) (by kernel_rfl) (by kernel_rfl) Tryz.func149 rfl rfl rfl (I rfl) (I rfl) (I rfl) (by kernel_rfl) (by kernel_rfl)) (load_agg (ty := 51) rfl (by kernel_rfl) (by kernel_rfl)) (fun _ _ => rfl) (by kernel_rfl) (by kernel_rfl) Tryz.func25 rfl rfl rfl (I rfl) (I rfl) (I rfl) (I rfl) (I rfl) (I rfl) (I rfl) (I rfl) (I rfl)
theorem wputCert_n : PutC 17 certK := face_p (put_p (tpp := 76) (pcert_w.walkW (fun _ => rfl) (Nat.le_of_ble_eq_true (by kernel_rfl))) mayCert_x (load_agg (ty := 42) rfl (by kernel_rfl) (by kernel_rfl)) (fun _ _ => rfl) (by decide) Tryz.func58 rfl rfl rfl (by constructor <;> exact ⟨rfl, rfl, rfl⟩) (by kernel_rfl) (by kernel_rfl) (by kernel_rfl) Tryz.func137 rfl rfl rfl (I rfl) (I rfl) (I rfl) (by kernel_rfl) (by kernel_rfl)) (load_agg (ty := 42) rfl (by kernel_rfl) (by kernel_rfl)) (fun _ _ => rfl) (by kernel_rfl) (by kernel_rfl) Tryz.func17 rfl rfl rfl (I rfl) (I rfl) (I rfl) (I rfl) (I rfl) (I rfl) (I rfl) (I rfl) (I rfl)
theorem wputProof_n : PutC 29 proofK := face_p (put_p (tpp := 76) (pproof_w.walkW (fun _ => rfl) (Nat.le_of_ble_eq_true (by kernel_rfl))) mayProof_x (load_agg (ty := 57) rfl (by kernel_rfl) (by kernel_rfl)) (fun _ _ => rfl) (by decide) Tryz.func76 rfl rfl rfl (by constructor <;> exact ⟨rfl, rfl, rfl⟩) (by kernel_rfl) (by kernel_rfl) (by kernel_rfl) Tryz.func157 rfl rfl rfl (I rfl) (I rfl) (I rfl) (by kernel_rfl) (by kernel_rfl)) (load_agg (ty := 57) rfl (by kernel_rfl) (by kernel_rfl)) (fun _ _ => rfl) (by kernel_rfl) (by kernel_rfl) Tryz.func29 rfl rfl rfl (I rfl) (I rfl) (I rfl) (I rfl) (I rfl) (I rfl) (I rfl) (I rfl) (I rfl)
theorem wputTx_n : PutC 33 txK := face_p (put_p (tpp := 76) (ptx_w.walkW (fun _ => rfl) (Nat.le_of_ble_eq_true (by kernel_rfl))) mayTx_x (load_agg (ty := 64) rfl (by kernel_rfl) (by kernel_rfl)) (fun _ _ => rfl) (by decide) Tryz.func82 rfl rfl rfl (by constructor <;> exact ⟨rfl, rfl, rfl⟩) (by kernel_rfl) (by kernel_rfl) (by kernel_rfl) Tryz.func168 rfl rfl rfl (I rfl) (I rfl) (I rfl) (by kernel_rfl) (by kernel_rfl)) (load_agg (ty := 64) rfl (by kernel_rfl) (by kernel_rfl)) (fun _ _ => rfl) (by kernel_rfl) (by kernel_rfl) Tryz.func33 rfl rfl rfl (I rfl) (I rfl) (I rfl) (I rfl) (I rfl) (I rfl) (I rfl) (I rfl) (I rfl)
theorem wputBlock_n : PutC 91 blockK := face_p (put_p (tpp := 76) (pblock_w.walkW (fun _ => rfl) (Nat.le_of_ble_eq_true (by kernel_rfl))) mayBlock_x (load_agg (ty := 140) rfl (by kernel_rfl) (by kernel_rfl)) (fun _ _ => rfl) (by decide) Tryz.func177 rfl rfl rfl (by constructor <;> exact ⟨rfl, rfl, rfl⟩) (by kernel_rfl) (by kernel_rfl) (by kernel_rfl) Tryz.func231 rfl rfl rfl (I rfl) (I rfl) (I rfl) (by kernel_rfl) (by kernel_rfl)) (load_agg (ty := 140) rfl (by kernel_rfl) (by kernel_rfl)) (fun _ _ => rfl) (by kernel_rfl) (by kernel_rfl) Tryz.func91 rfl rfl rfl (I rfl) (I rfl) (I rfl) (I rfl) (I rfl) (I rfl) (I rfl) (I rfl) (I rfl)
theorem wputMessage_n : PutC 95 messageK := face_p (put_p (tpp := 76) (pmessage_w.walkW (fun _ => rfl) (Nat.le_of_ble_eq_true (by kernel_rfl))) mayMessage_x (load_agg (ty := 148) rfl (by kernel_rfl) (by kernel_rfl)) (fun _ _ => rfl) (by decide) Tryz.func183 rfl rfl rfl (by constructor <;> exact ⟨rfl, rfl, rfl⟩) (by kernel_rfl) (by kernel_rfl) (by kernel_rfl) Tryz.func245 rfl rfl rfl (I rfl) (I rfl) (I rfl) (by kernel_rfl) (by kernel_rfl)) (load_agg (ty := 148) rfl (by kernel_rfl) (by kernel_rfl)) (fun _ _ => rfl) (by kernel_rfl) (by kernel_rfl) Tryz.func95 rfl rfl rfl (I rfl) (I rfl) (I rfl) (I rfl) (I rfl) (I rfl) (I rfl) (I rfl) (I rfl)
theorem wputVote_n : PutC 13 voteK := face_p (put_p (tpp := 76) (pvote_w.walkW (fun _ => rfl) (Nat.le_of_ble_eq_true (by kernel_rfl))) mayVote_x (load_agg (ty := 36) rfl (by kernel_rfl) (by kernel_rfl)) (fun _ _ => rfl) (by decide) Tryz.func52 rfl rfl rfl (by constructor <;> exact ⟨rfl, rfl, rfl⟩) (by kernel_rfl) (by kernel_rfl) (by kernel_rfl) Tryz.func129 rfl rfl rfl (I rfl) (I rfl) (I rfl) (by kernel_rfl) (by kernel_rfl)) (load_agg (ty := 36) rfl (by kernel_rfl) (by kernel_rfl)) (fun _ _ => rfl) (by kernel_rfl) (by kernel_rfl) Tryz.func13 rfl rfl rfl (I rfl) (I rfl) (I rfl) (I rfl) (I rfl) (I rfl) (I rfl) (I rfl) (I rfl)
theorem wputGuilt_n : PutC 37 guiltK := face_p (put_p (tpp := 76) (pguilt_w.walkW (fun _ => rfl) (Nat.le_of_ble_eq_true (by kernel_rfl))) mayGuilt_x (load_agg (ty := 69) rfl (by kernel_rfl) (by kernel_rfl)) (fun _ _ => rfl) (by decide) Tryz.func88 rfl rfl rfl (by constructor <;> exact ⟨rfl, rfl, rfl⟩) (by kernel_rfl) (by kernel_rfl) (by kernel_rfl) Tryz.func172 rfl rfl rfl (I rfl) (I rfl) (I rfl) (by kernel_rfl) (by kernel_rfl)) (load_agg (ty := 69) rfl (by kernel_rfl) (by kernel_rfl)) (fun _ _ => rfl) (by kernel_rfl) (by kernel_rfl) Tryz.func37 rfl rfl rfl (I rfl) (I rfl) (I rfl) (I rfl) (I rfl) (I rfl) (I rfl) (I rfl) (I rfl)
theorem wputAccount_n : PutC 103 accountK := face_p (put_p (tpp := 76) (paccount_w.walkW (fun _ => rfl) (Nat.le_of_ble_eq_true (by kernel_rfl))) anyAccount_x (load_agg (ty := 163) rfl (by kernel_rfl) (by kernel_rfl)) (fun _ _ => rfl) (by decide) Tryz.func195 rfl rfl rfl (by constructor <;> exact ⟨rfl, rfl, rfl⟩) (by kernel_rfl) (by kernel_rfl) (by kernel_rfl) Tryz.func256 rfl rfl rfl (I rfl) (I rfl) (I rfl) (by kernel_rfl) (by kernel_rfl)) (load_agg (ty := 163) rfl (by kernel_rfl) (by kernel_rfl)) (fun _ _ => rfl) (by kernel_rfl) (by kernel_rfl) Tryz.func103 rfl rfl rfl (I rfl) (I rfl) (I rfl) (I rfl) (I rfl) (I rfl) (I rfl) (I rfl) (I rfl)
theorem wputParcel_n : PutC 107 parcelK := face_p (put_p (tpp := 76) (pparcel_w.walkW (fun _ => rfl) (Nat.le_of_ble_eq_true (by kernel_rfl))) mayParcel_x (load_agg (ty := 168) rfl (by kernel_rfl) (by kernel_rfl)) (fun _ _ => rfl) (by decide) Tryz.func200 rfl rfl rfl (by constructor <;> exact ⟨rfl, rfl, rfl⟩) (by kernel_rfl) (by kernel_rfl) (by kernel_rfl) Tryz.func258 rfl rfl rfl (I rfl) (I rfl) (I rfl) (by kernel_rfl) (by kernel_rfl)) (load_agg (ty := 168) rfl (by kernel_rfl) (by kernel_rfl)) (fun _ _ => rfl) (by kernel_rfl) (by kernel_rfl) Tryz.func107 rfl rfl rfl (I rfl) (I rfl) (I rfl) (I rfl) (I rfl) (I rfl) (I rfl) (I rfl) (I rfl)
theorem wputView_n : PutC 111 viewK := face_p (put_p (tpp := 76) (pview_w.walkW (fun _ => rfl) (Nat.le_of_ble_eq_true (by kernel_rfl))) mayView_x (load_agg (ty := 173) rfl (by kernel_rfl) (by kernel_rfl)) (fun _ _ => rfl) (by decide) Tryz.func206 rfl rfl rfl (by constructor <;> exact ⟨rfl, rfl, rfl⟩) (by kernel_rfl) (by kernel_rfl) (by kernel_rfl) Tryz.func260 rfl rfl rfl (I rfl) (I rfl) (I rfl) (by kernel_rfl) (by kernel_rfl)) (load_agg (ty := 173) rfl (by kernel_rfl) (by kernel_rfl)) (fun _ _ => rfl) (by kernel_rfl) (by kernel_rfl) Tryz.func111 rfl rfl rfl (I rfl) (I rfl) (I rfl) (I rfl) (I rfl) (I rfl) (I rfl) (I rfl) (I rfl)
theorem st_is {N id i j s : Nat} {c k : Int} {ti tj : TypeId} {o1 o2 : Oper} {L : List (Nat × Value)} {A : Act} {w : World} {Q : Exit → Act → World → Prop} (h1 : Is o1 (some i) (.binOp .eql ti (.tmp s) (.const (.int .i64 c)) tj)) (h2 : Is o2 (some j) (.assign (.tmp i))) (chk : (freeOf [i, j] L && decide (i < N) && decide (j < N)) = true) (ms : (s, Value.int .i64 k) ∈ L) (F : Fr N L A) (K : ∀ A', Fr N L A' → A'.eval (.tmp j) = .bool (k == c) → Q .normal A' w) : (Code.region id #[o1, o2] false).wp Tryz.prog Q A w := by
 simp only [Bool.and_eq_true, decide_eq_true_eq] at chk
 refine wp_region_list ?_
 show wpList _ _ _ [o1, o2] _ _
 refine ol_val h1.2.2 (run_eql h1.2.1 (F.get ms) rfl) ?_
 rw [h1.1]
 have F1 := F.put (v := .bool (k == c)) chk.1.1 (show i ∈ _ by simp)
 refine ol_move h2.2.2 (.inr h2.2.1) ?_
 rw [h2.1, eval_put_self (by rw [F.1]; exact chk.1.2)]
 exact wpList_nil (K _ (F1.put chk.1.1 (show j ∈ _ by simp)) (eval_put_self (by rw [F1.1]; exact chk.2)))
theorem ws_one {base b xb n : Nat} {sc : List Sc} {p : List Fld} {out : List UInt8} {w : World} (hf : fitsAll sc p) (hl : out.length + (encF sc p).length ≤ 1099511000000) (hP : PassAt w base b out) (hs : Safe w b xb) (hc : CellsAt base w xb n p) : WS base b xb 0 (out ++ encF sc p) w n [sc] w := by
 refine ⟨p, out, by simpa using hf, by simp, by rw [List.length_append]; exact hl, hP, hs, by rw [Nat.zero_add]; exact hc, Kp.refl _ _ _⟩
theorem ws_done {base b xb off n : Nat} {tgt : List UInt8} {w0 w : World} (h : WS base b xb off tgt w0 n [] w) : PassAt w base b tgt ∧ Kp base b w0 w := by
 obtain ⟨gs, o2, q1, q2, q3, q4, q5, q6, q7⟩ := h
 have e : gs = [] := fits_nil q1
 subst e
 refine ⟨?_, q7⟩
 rw [q2]
 simpa [encF, atomsAll, pvAll, encL] using q4
theorem rec_enc {x : Record} : encL x.atoms = encF [numC] [.i x.k] ++ (if x.k = 1 then encF Vote.sc x.vo.flds else if x.k = 2 then encF Motion.sc x.mo.flds else if x.k = 3 ∨ x.k = 4 then encF Known.sc x.kn.flds else []) := by
 unfold Record.atoms Record.tail
 rw [encL_append]
 congr 1
 split
 ·rw [Vote.pv]; rfl
 split
 ·rw [Motion.pv]; rfl
 split
 ·rw [Known.pv]; rfl
 ·rfl
theorem enc_le {sc : List Sc} {p : List Fld} (n : Nat) (hf : fitsAll sc p) (hn : wtAll sc ≤ n) : (encF sc p).length ≤ n := by
 have := encL_len (atomsAll sc (pvAll p))
 have := wtAll_le _ _ hf
 unfold encF
 omega
theorem precord_w : WalkW 186 recordK := by
 refine ⟨by kernel_rfl, fun base b xb t fs w hf hP ht hne kx hg => ?_⟩
 have hs := kx.safe ht hne
 have hc := CellsAt.of_blk kx (by simp) hg
 obtain ⟨x, rfl⟩ := Record.of fs hf
 obtain ⟨f0, f1, f2, f3⟩ := Record.parts hf
 have he : recordK.enc (pvAll x.flds) = encL x.atoms := by rw [Record.at_]; rfl
 rw [he, rec_enc]
 have c0 := CellsAt.app (fs := [.i x.k]) (gs := x.vo.flds ++ (x.mo.flds ++ x.kn.flds)) hc
 have c1 := CellsAt.app (fs := x.vo.flds) c0.2
 have c2 := CellsAt.app (fs := x.mo.flds) c1.2
 have l0 := enc_le 100 f0 (Nat.le_of_ble_eq_true (by kernel_rfl))
 have l1 := enc_le 1000000000 f1 (Nat.le_of_ble_eq_true (by kernel_rfl))
 have l2 := enc_le 1000000000 f2 (Nat.le_of_ble_eq_true (by kernel_rfl))
 have l3 := enc_le 1000000000 f3 (Nat.le_of_ble_eq_true (by kernel_rfl))
 obtain ⟨d3, hu3, hr3⟩ := cellT_out (show cellT Tryz.prog 3 = true by kernel_rfl)
 refine ab_fn (S := fun _ (_ : List Unit) _ => True) (segs := []) (off := 0) (N := 35) Tryz.func186 rfl rfl (by decide) trivial fun A F => ?_
 refine wp_seq (ab_sub (ex := []) (number_w.ct (tgt := [] ++ encF [numC] [.i x.k])) rfl (fun _ => rfl) (by kernel_rfl) rfl (fun _ _ _ _ h => by cases h.1) (by simp) (by simp) F (ws_one f0 (by simp only [List.length_nil]; omega) hP hs c0.1) ?_)
 clear F
 intro A w1 F H1
 obtain ⟨P1, K1⟩ := ws_done H1
 rw [List.nil_append] at P1
 have s1 := hs.kp K1
 have hk : w1.cell? ⟨xb, 0, none⟩ = some (.int .i64 x.k) := (c0.1.kp hs K1).1
 show Code.wp _ _ _ _ _
 refine wp_seq (wp_region_list ?_)
 show wpList _ _ _ [_, _, _, _] _ _
 refine ol_move rfl (.inl rfl) ?_
 show wpList _ _ _ _ (A.put (some 9) (A.eval (.tmp 1))) _
 rw [F.get (by simp : (1, Value.pointer (some ⟨xb, 0, none⟩)) ∈ _)]
 have F1 := F.set (i := 9) (v := .pointer (some ⟨xb, 0, none⟩)) (by omega) rfl
 generalize A.put (some 9) (.pointer (some ⟨xb, 0, none⟩)) = A1 at *
 refine ol_nil rfl rfl (F1.get (by simp : (9, Value.pointer (some ⟨xb, 0, none⟩)) ∈ _)) ?_
 show wpList _ _ _ _ (A1.put (some 10) (.pointer (some ⟨xb, 0, none⟩))) _
 have F2 := F1.set (i := 10) (v := .pointer (some ⟨xb, 0, none⟩)) (by omega) rfl
 generalize A1.put (some 10) (.pointer (some ⟨xb, 0, none⟩)) = A2 at *
 refine ol_fld rfl rfl (F2.get (by simp : (10, Value.pointer (some ⟨xb, 0, none⟩)) ∈ _)) (n := 0) (by kernel_rfl) ?_
 show wpList _ _ _ _ (A2.put (some 11) (.pointer (some ⟨xb, 0, none⟩))) _
 have F3 := F2.set (i := 11) (v := .pointer (some ⟨xb, 0, none⟩)) (by omega) rfl
 generalize A2.put (some 11) (.pointer (some ⟨xb, 0, none⟩)) = A3 at *
 refine ol_cell rfl rfl (F3.get (by simp : (11, Value.pointer (some ⟨xb, 0, none⟩)) ∈ _)) hk hu3 hr3 ?_
 show wpList _ _ _ _ (A3.put (some 12) (.int .i64 x.k)) _
 have F4 : Fr 35 [(12, .int .i64 x.k), (0, ptr b), (1, .pointer (some ⟨xb, 0, none⟩))] (A3.put (some 12) (.int .i64 x.k)) := (F3.dropn 3).set (i := 12) (by omega) rfl
 generalize A3.put (some 12) (.int .i64 x.k) = A4 at *
 refine wpList_nil ?_
 show Code.wp _ _ _ _ _
 clear F F1 F2 F3
 have hzz : ∀ {sc : List Sc} {p : List Fld} {w' : World} {n : Nat}, WS base b xb 0 (encF [numC] [.i x.k] ++ encF sc p) w1 n [] w' → PassAt w' base b (encF [numC] [.i x.k] ++ encF sc p) ∧ Kp base b w w' := fun h => ⟨(ws_done h).1, K1.trans (ws_done h).2⟩
 refine wp_block ?_
 refine wp_seq (st_is (k := x.k) ⟨rfl, rfl, rfl⟩ ⟨rfl, rfl, rfl⟩ rfl (by simp) F4 ?_)
 clear F4
 intro A F hq
 show Code.wp _ _ _ _ _
 by_cases k1 : x.k = 1
 ·rw [if_pos k1]
  refine wp_cond_true (by rw [hq]; simp [k1]) ?_
  exact ab_sub (ex := []) (pvote_w.ct (tgt := encF [numC] [.i x.k] ++ encF Vote.sc x.vo.flds)) rfl (fun _ => rfl) (by kernel_rfl) rfl (fun _ _ _ _ h => by cases h.1) (by simp) (by simp) F (ws_one f1 (by omega) P1 s1 (c1.1.kp hs K1)) fun A' w' F' H' => (show bodyPost Tryz.prog Tryz.f186 (fun e w' => e = .returned (.tuple #[]) ∧ PassAt w' base b (encF [numC] [.i x.k] ++ encF Vote.sc x.vo.flds) ∧ Kp base b w w') .normal A' w' from ret_plain rfl F'.2.1 ⟨rfl, hzz H'⟩)
 rw [if_neg k1]
 refine wp_cond_false (by rw [hq]; simp [k1]) ?_
 refine wp_seq (st_is (k := x.k) ⟨rfl, rfl, rfl⟩ ⟨rfl, rfl, rfl⟩ rfl (by simp) F ?_)
 clear F hq
 intro A F hq
 show Code.wp _ _ _ _ _
 by_cases k2 : x.k = 2
 ·rw [if_pos k2]
  refine wp_cond_true (by rw [hq]; simp [k2]) ?_
  exact ab_sub (ex := []) (pmotion_w.ct (tgt := encF [numC] [.i x.k] ++ encF Motion.sc x.mo.flds)) rfl (fun _ => rfl) (by kernel_rfl) rfl (fun _ _ _ _ h => by cases h.1) (by simp) (by simp) F (ws_one f2 (by omega) P1 s1 (c2.1.kp hs K1)) fun A' w' F' H' => (show bodyPost Tryz.prog Tryz.f186 (fun e w' => e = .returned (.tuple #[]) ∧ PassAt w' base b (encF [numC] [.i x.k] ++ encF Motion.sc x.mo.flds) ∧ Kp base b w w') .normal A' w' from ret_plain rfl F'.2.1 ⟨rfl, hzz H'⟩)
 rw [if_neg k2]
 refine wp_cond_false (by rw [hq]; simp [k2]) ?_
 have fin : ∀ (A : Act) (ops : Array Oper) (ts : Array TypeId) (id : Nat) (Q : Exit → Act → World → Prop), (∀ A' w', bodyPost Tryz.prog Tryz.f186 (fun e w' => e = .returned (.tuple #[]) ∧ PassAt w' base b (encF [numC] [.i x.k] ++ if x.k = 3 ∨ x.k = 4 then encF Known.sc x.kn.flds else []) ∧ Kp base b w w') .normal A' w' → Q .normal A' w') → ops.toList.map shp = subShape 30 158 3 237 [] ts → Fr 35 [(12, .int .i64 x.k), (0, ptr b), (1, .pointer (some ⟨xb, 0, none⟩))] A → A.eval (.tmp 27) = .bool (x.k == 3 || x.k == 4) → Code.wp Tryz.prog (Code.cond (.tmp 27) (.region id ops false) .skip) Q A w1 := fun A ops ts id Q hQ hops F hq => by
  by_cases k3 : x.k = 3 ∨ x.k = 4
  ·rw [if_pos k3] at hQ
   refine wp_cond_true (by rw [hq]; rcases k3 with e | e <;> simp [e]) ?_
   exact ab_sub (ex := []) (pknown_w.ct (tgt := encF [numC] [.i x.k] ++ encF Known.sc x.kn.flds)) hops (fun _ => rfl) (by kernel_rfl) rfl (fun _ _ _ _ h => by cases h.1) (by simp) (by simp) F (ws_one f3 (by omega) P1 s1 (c2.2.kp hs K1)) fun A' w' F' H' => hQ A' w' (ret_plain rfl F'.2.1 ⟨rfl, hzz H'⟩)
  ·rw [if_neg k3] at hQ
   refine wp_cond_false (by rw [hq]; simp only [not_or] at k3; simp [k3.1, k3.2]) (wp_skip ?_)
   exact hQ A w1 (ret_plain rfl F.2.1 ⟨rfl, by rw [List.append_nil]; exact P1, K1⟩)
 refine wp_seq (wp_seq (st_is (k := x.k) ⟨rfl, rfl, rfl⟩ ⟨rfl, rfl, rfl⟩ rfl (by simp) F ?_))
 clear F hq
 intro A F hq
 show Code.wp _ _ _ _ _
 by_cases k3 : x.k = 3
 ·refine wp_cond_true (by rw [hq]; simp [k3]) (wp_skip ?_)
  show Code.wp _ _ _ _ _
  exact fin A _ _ _ _ (fun _ _ h => h) rfl F (by rw [hq]; simp [k3])
 ·refine wp_cond_false (by rw [hq]; simp [k3]) ?_
  refine st_is (k := x.k) ⟨rfl, rfl, rfl⟩ ⟨rfl, rfl, rfl⟩ rfl (by simp) F ?_
  clear F hq
  intro A F hq
  show Code.wp _ _ _ _ _
  exact fin A _ _ _ _ (fun _ _ h => h) rfl F (by rw [hq]; simp [k3])
theorem fill3 (p q r : Addr) : Instr.fill (fun i => some (i * 1, 1)) ((Array.range (3 * 1)).map ((#[Value.pointer none] : Array Value)[· % 1]!)) [(0, Value.pointer (some p)), (1, Value.pointer (some q)), (2, Value.pointer (some r))] = some #[Value.pointer (some p), Value.pointer (some q), Value.pointer (some r)] := by kernel_rfl
theorem run_three {P : Program} {w : World} {t e : TypeId} (p q r : Addr) (hu : P.underlying t = some (.slice e)) (hi : (P.info? e).map (fun i => (i.zero, i.size)) = some (some (.pointer none), 1)) :
  (Instr.buildSlice t 3 #[(0, Value.pointer (some p)), (1, Value.pointer (some q)), (2, Value.pointer (some r))]).run P w = .ok (.slice (some ⟨w.heap.size, 0, none⟩) 3 3) (w.alloc (.cells #[Value.pointer (some p), Value.pointer (some q), Value.pointer (some r)] e)) := by
 cases hq : P.info? e with
 | none => rw [hq] at hi; cases hi
 | some i =>
  rw [hq] at hi
  simp only [Option.map_some, Option.some.injEq, Prod.mk.injEq] at hi
  exact run_buildSlice w t e 3 _ _ i (.pointer none) hu hq hi.1 (by rw [hi.2]; omega) (by rw [hi.2]; omega) (by rw [hi.2]; exact fill3 p q r)
theorem st_three {N id i s k0 b xb off o1 cb t4 : Nat} {f : FuncId} {bty ety : TypeId} {ops : Array Oper} {ts : Array TypeId} {L : List (Nat × Value)} {A : Act} {w : World} {Q : Exit → Act → World → Prop} {R : World → Ending → World → Prop}
  (hsh : ops.toList.map shp = (some i, .move (.tmp 0), none) :: (trips s k0 (i + 1) 2 ++ [(some (i + 7), .buildSlice bty 3 #[(0, .tmp t4), (1, .tmp (i + 3)), (2, .tmp (i + 6))], none), (some (i + 8), .call { callee := .value (.func f), args := #[.tmp i, .tmp (i + 7)], argTypes := ts }, none)])) (hck : manyChk ops = true) (hoff : ((List.range 2).all fun j => fldOff Tryz.prog s (k0 + j) == some (o1 + j)) = true) (hu : Tryz.prog.underlying bty = some (.slice ety)) (hi : (Tryz.prog.info? ety).map (fun i => (i.zero, i.size)) = some (some (.pointer none), 1)) (hE : enters Tryz.prog f = true) (hmx : Tryz.prog.follows .mixedOrders = true)
  (hfr : (ltAll i L && decide (i + 9 ≤ N)) = true) (hQ : ∀ c d v a w, Q (.panic c) (a.put (some d) v) w → Q (.panic c) a w) (m0 : (0, ptr b) ∈ L) (m1 : (1, Value.pointer (some ⟨xb, off, none⟩)) ∈ L) (m4 : (t4, ptr cb) ∈ L) (F : Fr N L A)
  (hC : ∀ w1, Below w.heap.size w w1 → Blk w1 w.heap.size #[ptr cb, .pointer (some ⟨xb, off + o1, none⟩), .pointer (some ⟨xb, off + o1 + 1, none⟩)] ety → Calls Tryz.prog f #[ptr b, .slice (some ⟨w.heap.size, 0, none⟩) 3 3] w1 (R w1))
  (K : ∀ w1 e w2, Below w.heap.size w w1 → R w1 e w2 → e = .returned (.tuple #[]) ∧ ∀ A', Fr N L A' → Q .normal A' w2) :
  (Code.region id ops true).wp Tryz.prog Q A w := by
 rw [Bool.and_eq_true, decide_eq_true_eq] at hfr
 obtain ⟨hl, hN⟩ := hfr
 unfold manyChk at hck
 simp only [Bool.and_eq_true, beq_iff_eq, List.all_eq_true, List.mem_range] at hck
 obtain ⟨⟨⟨⟨hs, hf⟩, r1⟩, r2⟩, r3⟩ := hck
 have hsz : ops.size = 9 := by
  have := congrArg List.length hsh
  simpa [trips] using this
 rw [hsz] at r1 r2 r3
 refine wp_region_any hmx ?_
 change wpAny _ _ _ _ _ _ _ (World.drew _)
 have bd : Below w.heap.size w w.drew := (Below.refl _ _).drew
 have hds : w.drew.heap.size = w.heap.size := rfl
 generalize w.drew = wd at *
 have h0 := hsh
 rw [← List.drop_zero (l := ops.toList.map shp)] at h0
 obtain ⟨p0, e0, s0, h1⟩ := shp_at h0
 have i0 := shp_is s0
 have go : wpAny Tryz.prog .any ops Q (2 + 3 * 2 + 1) (lst ops.size 0) A wd := by
  refine any_one e0 ⟨i0.1, i0.2.2⟩ hs (hf _ (by omega)) hQ (v := ptr b) (fun w => by unfold execOp; rw [i0.2.1]; simp only [F.get m0]; rfl) ?_
  have F1 := F.set (i := i) (v := ptr b) (by omega) (free_lt hl (Nat.le_refl _))
  generalize A.put (some i) (ptr b) = A1 at *
  refine any_trips hs hf hQ 2 2 k0 (i + 1) 1 o1 _ A1 h1 (by omega) F1 (lt_cons hl (Nat.le_succ _) (Nat.lt_succ_self _)) (by omega) (List.mem_cons_of_mem _ m1) (fun q hq => by simpa using List.all_eq_true.1 hoff q (List.mem_range.2 hq)) ?_
  intro A2 F2 h2
  obtain ⟨p1, e1, s1, h3⟩ := shp_at h2
  obtain ⟨p2, e2, s2, h4⟩ := shp_at h3
  have i1 := shp_is s1
  have i2 := shp_is s2
  rw [hsz] at *
  refine wpAny_ready r1 (by simp) (AllReady.cons e1 (fun KK hK => ?_) AllReady.nil)
  rw [if_pos (by unfold Region.wanted; rw [i1.2.2])]
  have g1 := F2.get (i := i + 3) (v := .pointer (some ⟨xb, off + o1, none⟩)) (by simp [adrs])
  have g2 := F2.get (i := i + 6) (v := .pointer (some ⟨xb, off + o1 + 1, none⟩)) (by simp [adrs])
  have g4 := F2.get (i := t4) (v := ptr cb) (List.mem_append_right _ (List.mem_cons_of_mem _ m4))
  unfold Oper.wp
  have hrun : (execOp A2.eval p1).run Tryz.prog wd = .ok (.value (.slice (some ⟨wd.heap.size, 0, none⟩) 3 3)) (wd.alloc (.cells #[ptr cb, .pointer (some ⟨xb, off + o1, none⟩), .pointer (some ⟨xb, off + o1 + 1, none⟩)] ety)) := by
   unfold execOp
   rw [i1.2.1]
   simp only [List.map_toArray, List.map_cons, List.map_nil, g1, g2, g4]
   rw [Sem.run_bind]
   have := run_three (P := Tryz.prog) (w := wd) (t := bty) ⟨cb, 0, none⟩ ⟨xb, off + o1, none⟩ ⟨xb, off + o1 + 1, none⟩ hu hi
   erw [this]
   rfl
  rw [hrun]
  show KK (A2.put p1.dst (.slice (some ⟨wd.heap.size, 0, none⟩) 3 3)) _
  rw [i1.1, hds]
  refine hK _ _ ?_
  have F3 := (F2.sub (L' := (i, ptr b) :: L) (fun p hp => List.mem_append_right _ hp)).set (i := i + 7) (v := .slice (some ⟨w.heap.size, 0, none⟩) 3 3) (by omega) (free_lt (lt_cons (j := i + 7) hl (by omega) (by omega)) (Nat.le_refl _))
  generalize A2.put (some (i + 7)) (.slice (some ⟨w.heap.size, 0, none⟩) 3 3) = A3 at *
  have bA : Below w.heap.size w (wd.alloc (.cells #[ptr cb, .pointer (some ⟨xb, off + o1, none⟩), .pointer (some ⟨xb, off + o1 + 1, none⟩)] ety)) := bd.alloc (by omega) _
  have kb := Blk.new wd #[ptr cb, .pointer (some ⟨xb, off + o1, none⟩), .pointer (some ⟨xb, off + o1 + 1, none⟩)] ety
  rw [hds] at kb
  generalize wd.alloc (.cells #[ptr cb, .pointer (some ⟨xb, off + o1, none⟩), .pointer (some ⟨xb, off + o1 + 1, none⟩)] ety) = w1 at *
  refine wpAny_ready r2 (by simp) (AllReady.cons e2 (fun KK hK => ?_) AllReady.nil)
  rw [if_pos (by unfold Region.wanted; rw [i2.2.2])]
  unfold Oper.wp
  have g0 := F3.get (i := i) (v := ptr b) (by simp)
  have g7 := F3.get (i := i + 7) (v := .slice (some ⟨w.heap.size, 0, none⟩) 3 3) (by simp)
  rw [run_callv hE i2.2.1 rfl, List.map_toArray]
  simp only [List.map_cons, List.map_nil]
  rw [g0, g7, Oper.upon_enter]
  refine (hC w1 bA kb).mono ?_
  intro e w2 hR
  obtain ⟨rfl, hn⟩ := K w1 e w2 bA hR
  refine hK _ _ ?_
  rw [i2.1]
  have F4 : Fr N L A3 := F3.dropn 2
  have F5 := (F4.set (i := i + 8) (v := .tuple #[]) (by omega) (free_lt hl (by omega))).tl
  exact wpAny_done r3 (hn _ F5) _
 rw [hsz] at go ⊢
 exact go
end Go.Proofs.YtackcbpabjhmpaaGreat
