/- TrieBinds: the law. -/
import Derived.Test.YtcpjcjonlkgblaaPClash
import Derived.Test.YtcpjcjonlkgblaaPTurned
import Derived.Test.YtcpjcjonlkgblaaM49
import Derived.Test.YtcpjcjonlkgblaaM51
import Derived.Test.YtcpjcjonlkgblaaM11
namespace Go.Proofs.Ytcpjcjonlkgblaa
open Go.RowKit
set_option linter.unusedVariables false
set_option linter.unusedSimpArgs false
set_option maxRecDepth 8000 in
set_option maxHeartbeats 6400000 in
theorem binds_any (wd how d : Int) (la lp : Option Addr) (lc cp : Nat) (l : List (Key × Key)) (key : Key) (p : Pf) (w : World) (hw : okW wd) (hi0 : ItemsAt w la l) (hl : l.length ≤ maxLen) (hk : ∀ x ∈ l, x.1.length ≤ maxLen ∧ x.2.length ≤ maxLen) (hkey : key.length ≤ maxLen) (hp : PfIn w lp cp p)
    (hbig : p.tu.length ≤ 140737488355328 ∧ p.key.length ≤ 140737488355328 ∧ p.val.length ≤ 140737488355328 ∧ key.length ≤ 140737488355328) (hh : -9223372036854775808 ≤ how ∧ how ≤ 9223372036854775807) (hd : -9223372036854775808 ≤ d ∧ d ≤ 9223372036854775807) :
    Calls Try.prog 4 #[.int .i64 wd, .slice la l.length lc, .string (str key), pfV lp cp p, .int .i64 how, .int .i64 d] w fun e w' => e = .returned (.bool true) ∧ Below w.heap.size w w' := by
  have bA : Below w.heap.size w (w.alloc (.cells #[.slice lp p.tu.length cp, .bool p.leaf, .string (str p.key), .string (str p.val)] 25)) := (Below.refl _ _).alloc (Nat.le_refl _) _
  unfold pfV
  go_enter Try.func4, Try.ntmps4
  go_wp2_with fail
  refine (light_any la lc l _ hl (hi0.below bA)).mono ?_
  rintro e w1 ⟨hf, b1⟩
  obtain ⟨x, rfl, hx⟩ : ∃ x : Bool, e = .returned (.bool x) ∧ (x = true → l.length ≤ 1024) := hf
  have kA := Blk.new w #[.slice lp p.tu.length cp, .bool p.leaf, .string (str p.key), .string (str p.val)] 25
  generalize w.alloc (.cells #[.slice lp p.tu.length cp, .bool p.leaf, .string (str p.key), .string (str p.val)] 25) = wA at *
  have B1 := bA.trans (b1.mono bA.size)
  have k1 := kA.below b1 kA.lt
  have c0 := (k1.cell 0).trans rfl
  have c1 := (k1.cell 1).trans rfl
  have c2 := (k1.cell 2).trans rfl
  have c3 := (k1.cell 3).trans rfl
  have z1 := k1.lt
  have sk := str_size key
  have spk := str_size p.key
  have spv := str_size p.val
  have m1 := hp.cap1
  have m2 := hp.cap2
  have m3 := hp.key
  have m4 := hp.val
  cases x with
  | false =>
    go_wp2_with fail
    go_ret
    exact ⟨rfl, B1⟩
  | true =>
    have hn := hx rfl
    by_cases hb : p.tu.length + p.key.length + p.val.length + key.length > 65536
    · have e1 : (p.tu.length : Int) + (p.key.length : Int) + (p.val.length : Int) + (key.length : Int) > 65536 := by omega
      go_wp2_with fail
      go_ret
      exact ⟨rfl, B1⟩
    · by_cases hk32 : key.length > 32
      · have e1 : ¬ ((p.tu.length : Int) + (p.key.length : Int) + (p.val.length : Int) + (key.length : Int) > 65536) := by omega
        have e2 : (key.length : Int) > 32 := by omega
        go_wp2_with fail
        go_ret
        exact ⟨rfl, B1⟩
      · have e1 : ¬ ((p.tu.length : Int) + (p.key.length : Int) + (p.val.length : Int) + (key.length : Int) > 65536) := by omega
        have e2 : ¬ ((key.length : Int) > 32) := by omega
        go_wp2_with fail
        refine (pick_any wd 8 _ hw (by omega)).mono ?_
        rintro e _ ⟨⟨r, rfl, hr0, hr8⟩, rfl⟩
        go_wp2_with fail
        refine (grown_own _ la lc l _ (by unfold okW; omega) hn hk (hi0.below B1)).mono ?_
        rintro e w2 ⟨q, ua, ⟨uc, rfl⟩, hT, hI, b2, hfr⟩
        have HFR := show Hid (Fresh _ _ _) from hfr.mono (show w.heap.size + 1 ≤ w1.heap.size from k1.lt)
        have HBT := show Hid (w.heap.size < w2.heap.size) from Nat.lt_of_lt_of_le k1.lt b2.size
        clear hfr
        go_wp2_with fail
        have hg : Good (l.foldl growO none) := grow_good l none Good.none
        have hgl : (itemsO (l.foldl growO none)).length ≤ 1024 := by have := grow_len l none Good.none; simp [itemsO] at this ⊢; omega
        have bB : Below w2.heap.size w2 ((w2.alloc (.cells #[.int .i64 (1 + r), .pointer q] 30)).alloc (.cells #[.int .i64 (1 + r), .slice ua (itemsO (l.foldl growO none)).length uc] 32)) := ((Below.refl _ _).alloc (Nat.le_refl _) _).alloc (by simp) _
        have kT := (Blk.new w2 #[.int .i64 (1 + r), .pointer q] 30).alloc (.cells #[.int .i64 (1 + r), .slice ua (itemsO (l.foldl growO none)).length uc] 32)
        have kU := Blk.new (w2.alloc (.cells #[.int .i64 (1 + r), .pointer q] 30)) #[.int .i64 (1 + r), .slice ua (itemsO (l.foldl growO none)).length uc] 32
        rw [World.size_alloc] at kU
        have hTB := TopAt.below bB hT
        have hIB := hI.below bB
        have B2 := B1.trans (b2.mono B1.size)
        have BB := B2.trans (bB.mono B2.size)
        have kA2 := (k1.below b2 k1.lt).below bB (Nat.lt_of_lt_of_le k1.lt b2.size)
        generalize l.foldl growO none = o at *
        generalize (w2.alloc (.cells #[.int .i64 (1 + r), .pointer q] 30)).alloc (.cells #[.int .i64 (1 + r), .slice ua (itemsO o).length uc] 32) = wB at *
        generalize w2.heap.size = bt at *
        have hwd : okW (1 + r) := by unfold okW; omega
        generalize 1 + r = wd' at *
        clear c0 c1 c2 c3 hT hI bB b2 b1 bA kA k1 hx
        refine (root_any wd' q o wB hwd hTB).mono ?_
        rintro e w3 ⟨rfl, b3⟩
        have B3 := BB.trans (b3.mono BB.size)
        have kT3 := kT.below b3 kT.lt
        have kU3 := kU.below b3 kU.lt
        have kA3 := kA2.below b3 kA2.lt
        have hT3 := TopAt.below b3 hTB
        have hI3 := hIB.below b3
        have t0 := (kT3.cell 0).trans rfl
        have t1 := (kT3.cell 1).trans rfl
        have zt := kT3.lt
        clear kT kU kA2 hTB hIB b3 BB B2
        go_wp2_with fail
        refine (prove_any wd' q o key w3 (by omega) hg hT3).mono ?_
        rintro e w4 ⟨lq, cq, rfl, hq4, b4⟩
        have B4 := B3.trans (b4.mono B3.size)
        have kT4 := kT3.below b4 kT3.lt
        have kU4 := kU3.below b4 kU3.lt
        have kA4 := kA3.below b4 kA3.lt
        have hI4 := hI3.below b4
        clear kT3 kU3 kA3 hT3 hI3 b4 B3 t0 t1 zt
        unfold pfV
        go_wp2_with fail
        have hqf := proveO_fits wd' key o hg
        have hql := proveO_len wd' key o hg
        have hqe : shownE wd' (rootP wd' o) key (proveO wd' key o) = 0 := by
          have h1 : mayE key (proveO wd' key o) = 0 := by
            unfold mayE
            rw [if_pos (prove_put wd' key o hg), if_pos ((bitsOk_all key _ _).2 hqf.bits)]
          unfold shownE
          rw [if_pos h1, if_pos (proveO_head wd' key o hg)]
        have hqv := proveO_shown wd' key o
        have bC : Below w4.heap.size w4 (w4.alloc (.cells #[.slice lq (proveO wd' key o).tu.length cq, .bool (proveO wd' key o).leaf, .string (str (proveO wd' key o).key), .string (str (proveO wd' key o).val)] 25)) := (Below.refl _ _).alloc (Nat.le_refl _) _
        have kQ := Blk.new w4 #[.slice lq (proveO wd' key o).tu.length cq, .bool (proveO wd' key o).leaf, .string (str (proveO wd' key o).key), .string (str (proveO wd' key o).val)] 25
        have hq5 := hq4.below bC
        have B5 := B4.trans (bC.mono B4.size)
        have kU5 := kU4.below bC kU4.lt
        have kA5 := kA4.below bC kA4.lt
        have hI5 := hI4.below bC
        have hqk : (proveO wd' key o).key.length ≤ 1000000 ∧ (proveO wd' key o).val.length ≤ 1000000 := by
          obtain ⟨_, _, a3, a4⟩ := (okP none 0 _).1 (putE_zero _ (prove_put wd' key o hg)).1
          omega
        generalize w4.alloc (.cells #[.slice lq (proveO wd' key o).tu.length cq, .bool (proveO wd' key o).leaf, .string (str (proveO wd' key o).key), .string (str (proveO wd' key o).val)] 25) = w5 at *
        have HBQ := show Hid (w.heap.size < w4.heap.size) from kA4.lt
        generalize w4.heap.size = bq at *
        have HGD := show Hid (Good o) from hg
        generalize proveO wd' key o = Q at *
        clear hq4 bC kT4 kU4 kA4 hI4 B4
        refine (pick_any how 4 w5 hh (by omega)).mono ?_
        rintro e _ ⟨⟨r4, rfl, h40, h44⟩, rfl⟩
        by_cases h4 : r4 > 0
        · have h4' : r4 > 0 := h4
          have c0 := (kQ.cell 0).trans rfl
          have c1 := (kQ.cell 1).trans rfl
          have c2 := (kQ.cell 2).trans rfl
          have c3 := (kQ.cell 3).trans rfl
          have zQ := kQ.lt
          have d0 := (kA5.cell 0).trans rfl
          have d1 := (kA5.cell 1).trans rfl
          have d2 := (kA5.cell 2).trans rfl
          have d3 := (kA5.cell 3).trans rfl
          have zA := kA5.lt
          have KT := turned_any lq lp cq cp Q p how d w5 hq5 (hp.below B5) (by omega) (by omega) hh hd
          unfold pfV at KT
          go_wp2_with fail
          refine KT.mono ?_
          rintro e wT ⟨LX, CX, X, rfl, hXT, hx1, hx2, hx3, bT⟩
          have kAT := kA5.below bT kA5.lt
          have f0 := kAT.frozen 0
          have f1 := kAT.frozen 1
          have f2 := kAT.frozen 2
          have f3 := kAT.frozen 3
          have g0 := (kAT.cell 0).trans rfl
          have g1 := (kAT.cell 1).trans rfl
          have g2 := (kAT.cell 2).trans rfl
          have g3 := (kAT.cell 3).trans rfl
          have zT := kAT.lt
          have BT := B5.trans (bT.mono B5.size)
          have kUT := set4_other (kU5.below bT kU5.lt) (show _ ≠ w.heap.size by have := HBT.out; omega) (.slice LX X.tu.length CX) (.bool X.leaf) (.string (str X.key)) (.string (str X.val))
          have kQT := set4_other (kQ.below bT kQ.lt) (show _ ≠ w.heap.size by have := HBQ.out; omega) (.slice LX X.tu.length CX) (.bool X.leaf) (.string (str X.key)) (.string (str X.val))
          have hIT := set4_items (hI5.below bT) HFR.out (.slice LX X.tu.length CX) (.bool X.leaf) (.string (str X.key)) (.string (str X.val))
          have hqT := set4_pf (hq5.below bT) kAT (.slice LX X.tu.length CX) (.bool X.leaf) (.string (str X.key)) (.string (str X.val))
          have hXS := set4_pf hXT kAT (.slice LX X.tu.length CX) (.bool X.leaf) (.string (str X.key)) (.string (str X.val))
          have BS := set4_below BT (Nat.le_refl w.heap.size) (.slice LX X.tu.length CX) (.bool X.leaf) (.string (str X.key)) (.string (str X.val))
          have kAS := set4_box kAT (.slice LX X.tu.length CX) (.bool X.leaf) (.string (str X.key)) (.string (str X.val))
          have HSS := show Hid (_ ∧ _ ∧ _ ∧ _ ∧ _ ∧ _ ∧ _) from ⟨kUT, kQT, hIT, hqT, hXS, BS, kAS⟩
          have hXe := hXT.each
          clear c0 c1 c2 c3 zQ d0 d1 d2 d3 zA kUT kQT hIT hqT hXS BS kAS hXT bT BT kA5 kU5 kQ hq5 hI5 KT kAT
          go_wp2_with fail
          obtain ⟨kU5, kQ, hI5, hq5, hX, B5, kA5⟩ := HSS.out
          clear HSS f0 f1 f2 f3 g0 g1 g2 g3 zT
          have hxk : X.key.length ≤ 1000000 := Nat.le_trans hx2 (Nat.max_le.2 ⟨hqk.1, by omega⟩)
          have hxv : X.val.length ≤ 1000000 := Nat.le_trans hx3 (Nat.max_le.2 ⟨hqk.2, by omega⟩)
          generalize hwS : set4 wT w.heap.size (.slice LX X.tu.length CX) (.bool X.leaf) (.string (str X.key)) (.string (str X.val)) = w5 at *
          unfold set4 at hwS
          rw [hwS]
          clear hwS hx2 hx3
          have c0 := trivial
          have c1 := trivial
          have c2 := trivial
          have c3 := trivial
          have zA := trivial
          refine (check_any wd' (rootP wd' o) key LX CX X w5 hwd (by omega) hX (by omega) (by omega) (by omega)).mono ?_
          rintro e w6 ⟨rfl, b6⟩
          have B6 := B5.trans (b6.mono B5.size)
          have kU6 := kU5.below b6 kU5.lt
          have kA6 := kA5.below b6 kA5.lt
          have kQ6 := kQ.below b6 kQ.lt
          have hI6 := hI5.below b6
          have hq6 := hq5.below b6
          have hX6 := hX.below b6
          clear c0 c1 c2 c3 zA
          have u0 := (kU6.cell 0).trans rfl
          have u1 := (kU6.cell 1).trans rfl
          have zu := kU6.lt
          go_wp2_with fail
          refine (rget_any wd' ua uc (itemsO o) key w6 (by omega) hI6).mono ?_
          rintro e w7 ⟨rfl, b7⟩
          rw [lookP_get key o HGD.out]
          have B7 := B6.trans (b7.mono B6.size)
          have kA7 := kA6.below b7 kA6.lt
          have kQ7 := kQ6.below b7 kQ6.lt
          have hq7 := hq6.below b7
          have hX7 := hX6.below b7
          clear u0 u1 zu kU6 kU5 kA6 kA5 kQ6 kQ hI6 hI5 hq6 hq5 hX6 hX b6 b7 B6 B5
          have c0 := (kQ7.cell 0).trans rfl
          have c1 := (kQ7.cell 1).trans rfl
          have c2 := (kQ7.cell 2).trans rfl
          have c3 := (kQ7.cell 3).trans rfl
          have zA := kQ7.lt
          go_wp2_with fail
          refine (check_any wd' (rootP wd' o) key lq cq Q w7 hwd (by omega) hq7 (by omega) hqk.1 hqk.2).mono ?_
          rintro e w8 ⟨rfl, b8⟩
          have hcv : checkV wd' (rootP wd' o) key Q = getO key o := by unfold checkV; rw [if_pos hqe, hqv]
          rw [hcv, hqe]
          have B8 := B7.trans (b8.mono B7.size)
          have kA8 := kA7.below b8 kA7.lt
          have kQ8 := kQ7.below b8 kQ7.lt
          have hq8 := hq7.below b8
          have hX8 := hX7.below b8
          clear c0 c1 c2 c3 zA kA7 kQ7 hq7 hX7 b8 B7
          have st1 := str_toList (getO key o)
          have st2 := str_toList (checkV wd' (rootP wd' o) key X)
          by_cases hf : shownE wd' (rootP wd' o) key X = 0
          · by_cases hs : checkV wd' (rootP wd' o) key X = getO key o
            · have hs' : (checkV wd' (rootP wd' o) key X == getO key o) = true := by simp [hs]
              rw [hf, hs]
              clear hs hs' st2
              go_wp2_with fail
              go_ret
              exact ⟨rfl, B8⟩
            · have hs' : (checkV wd' (rootP wd' o) key X == getO key o) = false := by simpa using hs
              have hne : shownV key Q ≠ shownV key X := by
                intro e0
                apply hs
                unfold checkV
                rw [if_pos hf, ← e0, hqv]
              have hpf := (mayE_fits key X (by
                have h0 := hf
                unfold shownE at h0
                by_cases hm : mayE key X = 0
                · exact hm
                · rw [if_neg hm] at h0; exact h0) hXe).1
              have hhd : ∀ z : Pf, shownE wd' (rootP wd' o) key z = 0 → headD wd' z = rootP wd' o := fun z h0 => by
                unfold shownE at h0
                by_cases hm : mayE key z = 0
                · rw [if_pos hm] at h0
                  by_cases h1 : headD wd' z = rootP wd' o
                  · exact h1
                  · rw [if_neg h1] at h0; cases h0
                · rw [if_neg hm] at h0; exact absurd h0 hm
              obtain ⟨ia, ib, hfu, hab, hdd⟩ := way_binds wd' (rootP wd' o) key Q X hqf hpf (hhd Q hqe) (hhd X hf) hne
              have KC := clash_any wd' (rootP wd' o) key lq LX cq CX Q X w8 hwd (by omega) hq8 hX8 (by omega) hqk.1 hqk.2 (by omega) (by omega) (by omega) hqe hf hne
              rw [hfu] at KC
              unfold pfV at KC
              rw [hf]
              have c0 := (kQ8.cell 0).trans rfl
              have c1 := (kQ8.cell 1).trans rfl
              have c2 := (kQ8.cell 2).trans rfl
              have c3 := (kQ8.cell 3).trans rfl
              have zQ := kQ8.lt
              have d0 := (kA8.cell 0).trans rfl
              have d1 := (kA8.cell 1).trans rfl
              have d2 := (kA8.cell 2).trans rfl
              have d3 := (kA8.cell 3).trans rfl
              have zA := kA8.lt
              clear hs hne hpf hhd hfu hf hqe
              go_wp2_with fail
              refine KC.mono ?_
              rintro e w9 ⟨v9, rfl, ⟨t1, t2, s1, s2, a1, a2, n1, n2, rfl, hS1, hS2, hl1, hl2, heq⟩, b9⟩
              have B9 := B8.trans (b9.mono B8.size)
              simp only [Option.getD_some] at heq
              obtain ⟨rfl, rfl⟩ := Prod.mk.inj heq
              clear c0 c1 c2 c3 zQ d0 d1 d2 d3 zA
              go_wp2_with fail
              have bC : Below w9.heap.size w9 ((w9.alloc (.cells #[.int .i64 t1, .slice a1 s1.length n1] 47)).alloc (.cells #[.int .i64 t2, .slice a2 s2.length n2] 47)) := ((Below.refl _ _).alloc (Nat.le_refl _) _).alloc (by simp) _
              have kC := (Blk.new w9 #[.int .i64 t1, .slice a1 s1.length n1] 47).alloc (.cells #[.int .i64 t2, .slice a2 s2.length n2] 47)
              have kD := Blk.new (w9.alloc (.cells #[.int .i64 t1, .slice a1 s1.length n1] 47)) #[.int .i64 t2, .slice a2 s2.length n2] 47
              rw [World.size_alloc] at kD
              have hSa := hS1.below bC
              have hSb := hS2.below bC
              have BC := B9.trans (bC.mono B9.size)
              generalize (w9.alloc (.cells #[.int .i64 t1, .slice a1 s1.length n1] 47)).alloc (.cells #[.int .i64 t2, .slice a2 s2.length n2] 47) = wC at *
              generalize w9.heap.size = bc at *
              have hdg : ofP wd' t1 s1 = ofP wd' t2 s2 := hdd
              have hal : alikeP (t1, s1) (t2, s2) = false := by unfold alikeP; exact decide_eq_false hab
              have m1 : s1.length ≤ maxLen := by unfold maxLen; omega
              have m2 : s2.length ≤ maxLen := by unfold maxLen; omega
              clear hab hdd hS1 hS2 bC B9 b9
              refine (ofImg_any wd' t1 s1 (.agg #[.int .i64 t1, .slice a1 s1.length n1]) wC hwd m1 ⟨_, _, rfl, hSa⟩).mono ?_
              rintro e wD ⟨rfl, bD⟩
              have kC1 := kC.below bD kC.lt
              have kD1 := kD.below bD kD.lt
              have hSa1 := hSa.below bD
              have hSb1 := hSb.below bD
              have BD := BC.trans (bD.mono BC.size)
              have y0 := (kD1.cell 0).trans rfl
              have y1 := (kD1.cell 1).trans rfl
              have zy := kD1.lt
              simp only [Nat.add_assoc, Nat.reduceAdd]
              go_wp2_with fail
              refine (ofImg_any wd' t2 s2 (.agg #[.int .i64 t2, .slice a2 s2.length n2]) wD hwd m2 ⟨_, _, rfl, hSb1⟩).mono ?_
              rintro e wE ⟨rfl, bE⟩
              have kC2 := kC1.below bE kC1.lt
              have kD2 := kD1.below bE kD1.lt
              have hSa2 := hSa1.below bE
              have hSb2 := hSb1.below bE
              have BE := BD.trans (bE.mono BD.size)
              clear y0 y1 zy
              have y0 := (kD2.cell 0).trans rfl
              have y1 := (kD2.cell 1).trans rfl
              have zy := kD2.lt
              have x0 := (kC2.cell 0).trans rfl
              have x1 := (kC2.cell 1).trans rfl
              have zx := kC2.lt
              rw [← hdg]
              go_wp2_with fail
              refine (same_any t1 t2 a1 a2 n1 n2 s1 s2 wE hSa2 hSb2 (by omega) (by omega)).mono ?_
              rintro e wF ⟨rfl, bF⟩
              rw [hal]
              have HB := show Hid (Below w.heap.size w wF) from BE.trans (bF.mono BE.size)
              clear y0 y1 zy x0 x1 zx
              go_wp2_with fail
              go_ret
              exact ⟨rfl, HB.out⟩
          · have hf' : (shownE wd' (rootP wd' o) key X != 0) = true := by simpa using hf
            go_wp2_with fail
            go_ret
            exact ⟨rfl, B8⟩
        · have h4' : ¬ r4 > 0 := h4
          have c0 := (kA5.cell 0).trans rfl
          have c1 := (kA5.cell 1).trans rfl
          have c2 := (kA5.cell 2).trans rfl
          have c3 := (kA5.cell 3).trans rfl
          have zA := kA5.lt
          have hX := hp.below B5
          go_wp2_with fail
          refine (check_any wd' (rootP wd' o) key lp cp p w5 hwd (by omega) hX (by omega) (by omega) (by omega)).mono ?_
          rintro e w6 ⟨rfl, b6⟩
          have B6 := B5.trans (b6.mono B5.size)
          have kU6 := kU5.below b6 kU5.lt
          have kA6 := kA5.below b6 kA5.lt
          have kQ6 := kQ.below b6 kQ.lt
          have hI6 := hI5.below b6
          have hq6 := hq5.below b6
          have hX6 := hX.below b6
          clear c0 c1 c2 c3 zA
          have u0 := (kU6.cell 0).trans rfl
          have u1 := (kU6.cell 1).trans rfl
          have zu := kU6.lt
          go_wp2_with fail
          refine (rget_any wd' ua uc (itemsO o) key w6 (by omega) hI6).mono ?_
          rintro e w7 ⟨rfl, b7⟩
          rw [lookP_get key o HGD.out]
          have B7 := B6.trans (b7.mono B6.size)
          have kA7 := kA6.below b7 kA6.lt
          have kQ7 := kQ6.below b7 kQ6.lt
          have hq7 := hq6.below b7
          have hX7 := hX6.below b7
          clear u0 u1 zu kU6 kU5 kA6 kA5 kQ6 kQ hI6 hI5 hq6 hq5 hX6 hX b6 b7 B6 B5
          have c0 := (kQ7.cell 0).trans rfl
          have c1 := (kQ7.cell 1).trans rfl
          have c2 := (kQ7.cell 2).trans rfl
          have c3 := (kQ7.cell 3).trans rfl
          have zA := kQ7.lt
          go_wp2_with fail
          refine (check_any wd' (rootP wd' o) key lq cq Q w7 hwd (by omega) hq7 (by omega) hqk.1 hqk.2).mono ?_
          rintro e w8 ⟨rfl, b8⟩
          have hcv : checkV wd' (rootP wd' o) key Q = getO key o := by unfold checkV; rw [if_pos hqe, hqv]
          rw [hcv, hqe]
          have B8 := B7.trans (b8.mono B7.size)
          have kA8 := kA7.below b8 kA7.lt
          have kQ8 := kQ7.below b8 kQ7.lt
          have hq8 := hq7.below b8
          have hX8 := hX7.below b8
          clear c0 c1 c2 c3 zA kA7 kQ7 hq7 hX7 b8 B7
          have st1 := str_toList (getO key o)
          have st2 := str_toList (checkV wd' (rootP wd' o) key p)
          by_cases hf : shownE wd' (rootP wd' o) key p = 0
          · by_cases hs : checkV wd' (rootP wd' o) key p = getO key o
            · have hs' : (checkV wd' (rootP wd' o) key p == getO key o) = true := by simp [hs]
              rw [hf, hs]
              clear hs hs' st2
              go_wp2_with fail
              go_ret
              exact ⟨rfl, B8⟩
            · have hs' : (checkV wd' (rootP wd' o) key p == getO key o) = false := by simpa using hs
              have hne : shownV key Q ≠ shownV key p := by
                intro e0
                apply hs
                unfold checkV
                rw [if_pos hf, ← e0, hqv]
              have hpf := (mayE_fits key p (by
                have h0 := hf
                unfold shownE at h0
                by_cases hm : mayE key p = 0
                · exact hm
                · rw [if_neg hm] at h0; exact h0) hp.each).1
              have hhd : ∀ z : Pf, shownE wd' (rootP wd' o) key z = 0 → headD wd' z = rootP wd' o := fun z h0 => by
                unfold shownE at h0
                by_cases hm : mayE key z = 0
                · rw [if_pos hm] at h0
                  by_cases h1 : headD wd' z = rootP wd' o
                  · exact h1
                  · rw [if_neg h1] at h0; cases h0
                · rw [if_neg hm] at h0; exact absurd h0 hm
              obtain ⟨ia, ib, hfu, hab, hdd⟩ := way_binds wd' (rootP wd' o) key Q p hqf hpf (hhd Q hqe) (hhd p hf) hne
              have KC := clash_any wd' (rootP wd' o) key lq lp cq cp Q p w8 hwd (by omega) hq8 hX8 (by omega) hqk.1 hqk.2 (by omega) (by omega) (by omega) hqe hf hne
              rw [hfu] at KC
              unfold pfV at KC
              rw [hf]
              have c0 := (kQ8.cell 0).trans rfl
              have c1 := (kQ8.cell 1).trans rfl
              have c2 := (kQ8.cell 2).trans rfl
              have c3 := (kQ8.cell 3).trans rfl
              have zQ := kQ8.lt
              have d0 := (kA8.cell 0).trans rfl
              have d1 := (kA8.cell 1).trans rfl
              have d2 := (kA8.cell 2).trans rfl
              have d3 := (kA8.cell 3).trans rfl
              have zA := kA8.lt
              clear hs hne hpf hhd hfu hf hqe
              go_wp2_with fail
              refine KC.mono ?_
              rintro e w9 ⟨v9, rfl, ⟨t1, t2, s1, s2, a1, a2, n1, n2, rfl, hS1, hS2, hl1, hl2, heq⟩, b9⟩
              have B9 := B8.trans (b9.mono B8.size)
              simp only [Option.getD_some] at heq
              obtain ⟨rfl, rfl⟩ := Prod.mk.inj heq
              clear c0 c1 c2 c3 zQ d0 d1 d2 d3 zA
              go_wp2_with fail
              have bC : Below w9.heap.size w9 ((w9.alloc (.cells #[.int .i64 t1, .slice a1 s1.length n1] 47)).alloc (.cells #[.int .i64 t2, .slice a2 s2.length n2] 47)) := ((Below.refl _ _).alloc (Nat.le_refl _) _).alloc (by simp) _
              have kC := (Blk.new w9 #[.int .i64 t1, .slice a1 s1.length n1] 47).alloc (.cells #[.int .i64 t2, .slice a2 s2.length n2] 47)
              have kD := Blk.new (w9.alloc (.cells #[.int .i64 t1, .slice a1 s1.length n1] 47)) #[.int .i64 t2, .slice a2 s2.length n2] 47
              rw [World.size_alloc] at kD
              have hSa := hS1.below bC
              have hSb := hS2.below bC
              have BC := B9.trans (bC.mono B9.size)
              generalize (w9.alloc (.cells #[.int .i64 t1, .slice a1 s1.length n1] 47)).alloc (.cells #[.int .i64 t2, .slice a2 s2.length n2] 47) = wC at *
              generalize w9.heap.size = bc at *
              have hdg : ofP wd' t1 s1 = ofP wd' t2 s2 := hdd
              have hal : alikeP (t1, s1) (t2, s2) = false := by unfold alikeP; exact decide_eq_false hab
              have m1 : s1.length ≤ maxLen := by unfold maxLen; omega
              have m2 : s2.length ≤ maxLen := by unfold maxLen; omega
              clear hab hdd hS1 hS2 bC B9 b9
              refine (ofImg_any wd' t1 s1 (.agg #[.int .i64 t1, .slice a1 s1.length n1]) wC hwd m1 ⟨_, _, rfl, hSa⟩).mono ?_
              rintro e wD ⟨rfl, bD⟩
              have kC1 := kC.below bD kC.lt
              have kD1 := kD.below bD kD.lt
              have hSa1 := hSa.below bD
              have hSb1 := hSb.below bD
              have BD := BC.trans (bD.mono BC.size)
              have y0 := (kD1.cell 0).trans rfl
              have y1 := (kD1.cell 1).trans rfl
              have zy := kD1.lt
              simp only [Nat.add_assoc, Nat.reduceAdd]
              go_wp2_with fail
              refine (ofImg_any wd' t2 s2 (.agg #[.int .i64 t2, .slice a2 s2.length n2]) wD hwd m2 ⟨_, _, rfl, hSb1⟩).mono ?_
              rintro e wE ⟨rfl, bE⟩
              have kC2 := kC1.below bE kC1.lt
              have kD2 := kD1.below bE kD1.lt
              have hSa2 := hSa1.below bE
              have hSb2 := hSb1.below bE
              have BE := BD.trans (bE.mono BD.size)
              clear y0 y1 zy
              have y0 := (kD2.cell 0).trans rfl
              have y1 := (kD2.cell 1).trans rfl
              have zy := kD2.lt
              have x0 := (kC2.cell 0).trans rfl
              have x1 := (kC2.cell 1).trans rfl
              have zx := kC2.lt
              rw [← hdg]
              go_wp2_with fail
              refine (same_any t1 t2 a1 a2 n1 n2 s1 s2 wE hSa2 hSb2 (by omega) (by omega)).mono ?_
              rintro e wF ⟨rfl, bF⟩
              rw [hal]
              have HB := show Hid (Below w.heap.size w wF) from BE.trans (bF.mono BE.size)
              clear y0 y1 zy x0 x1 zx
              go_wp2_with fail
              go_ret
              exact ⟨rfl, HB.out⟩
          · have hf' : (shownE wd' (rootP wd' o) key p != 0) = true := by simpa using hf
            go_wp2_with fail
            go_ret
            exact ⟨rfl, B8⟩
end Go.Proofs.Ytcpjcjonlkgblaa
