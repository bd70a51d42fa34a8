/- Arguments that hold lists, opened: votes, pairs of votes, blocks. -/
import Derived.Test.YtgcebahlfgclgaaXOpen
namespace Go.Proofs.Ytgcebahlfgclgaa
open Go.ChangeShapes Go.WideShapes Go.ChangeAt Go.RowKit
set_option linter.unusedVariables false
set_option linter.unusedSimpArgs false

theorem Try.cellsOfLTx : Try.prog.cellsOf 62 = 1 := by kernel_rfl
theorem Try.cellsOfLGuilt : Try.prog.cellsOf 68 = 1 := by kernel_rfl
theorem Try.cellsOfVote : Try.prog.cellsOf 25 = 6 := by kernel_rfl
theorem Try.cellsOfGuilt : Try.prog.cellsOf 27 = 12 := by kernel_rfl
theorem Try.cellsOfBlock : Try.prog.cellsOf 70 = 11 := by kernel_rfl
theorem open_Vote {H : Type} (enc : TypeId × Value → H) (W : World) (sp : Nat → Bool) : Opened enc W sp Vote.flds Vote.atoms 25 := by
  intro fuel cs x h
  obtain ⟨ys, m, _, rfl, hn, hlen, hfs⟩ := DataW.trod_struct Try.underlying25 h
  rw [Try.cellsOfVote] at hn
  obtain ⟨x0, r0, rfl, hn0⟩ := listN hn
  obtain ⟨x1, r1, rfl, hn1⟩ := listN hn0
  obtain ⟨x2, r2, rfl, hn2⟩ := listN hn1
  obtain ⟨x3, r3, rfl, hn3⟩ := listN hn2
  obtain ⟨x4, r4, rfl, hn4⟩ := listN hn3
  obtain ⟨x5, r5, rfl, hn5⟩ := listN hn4
  obtain rfl := list0 hn5
  have hlen : ys.length = 6 := by simpa using hlen
  obtain ⟨y0, s0, rfl, hk0⟩ := listN hlen
  obtain ⟨y1, s1, rfl, hk1⟩ := listN hk0
  obtain ⟨y2, s2, rfl, hk2⟩ := listN hk1
  obtain ⟨y3, s3, rfl, hk3⟩ := listN hk2
  obtain ⟨y4, s4, rfl, hk4⟩ := listN hk3
  obtain ⟨y5, s5, rfl, hk5⟩ := listN hk4
  obtain rfl := list0 hk5
  have g0 := hfs 0 _ rfl
  simp [Try.cellsOf3] at g0
  obtain ⟨n0, e0, hy0, z0⟩ := DataW.trod_int Try.underlying3 g0
  have g1 := hfs 1 _ rfl
  simp [Try.cellsOf3] at g1
  obtain ⟨n1, e1, hy1, z1⟩ := DataW.trod_int Try.underlying3 g1
  have g2 := hfs 2 _ rfl
  simp [Try.cellsOf3] at g2
  obtain ⟨n2, e2, hy2, z2⟩ := DataW.trod_int Try.underlying3 g2
  have g3 := hfs 3 _ rfl
  simp [Try.cellsOfB] at g3
  obtain ⟨n3, e3, hy3⟩ := DataW.trod_bool Try.underlying4 g3
  have g4 := hfs 4 _ rfl
  simp [Try.cellsOfD] at g4
  obtain ⟨n4, e4, hy4, z4⟩ := DataW.trod_int Try.underlying23 g4
  have g5 := hfs 5 _ rfl
  simp [Try.cellsOf3] at g5
  obtain ⟨n5, e5, hy5, z5⟩ := DataW.trod_int Try.underlying3 g5
  simp only [List.cons.injEq, and_true] at e0
  subst e0
  simp only [List.cons.injEq, and_true] at e1
  subst e1
  simp only [List.cons.injEq, and_true] at e2
  subst e2
  simp only [List.cons.injEq, and_true] at e3
  subst e3
  simp only [List.cons.injEq, and_true] at e4
  subst e4
  simp only [List.cons.injEq, and_true] at e5
  subst e5
  subst hy0
  subst hy1
  subst hy2
  subst hy3
  subst hy4
  subst hy5
  refine ⟨⟨n0, n1, n2, n3, n4, n5⟩, ?_, ?_, ?_⟩
  · simp [Vote.flds, Guilt.flds, Cert.flds, Header.flds, Turn.flds, Proof.flds, Sight.flds, Tx.flds, Block.flds, Motion.flds, Known.flds, Message.flds, Record.flds, Fld.val, Lst.fld, pairF]
  · exact goods_cons (i64_wf z0) (goods_cons (i64_wf z1) (goods_cons (i64_wf z2) (goods_cons (trivial) (goods_cons (u64_wf z4) (goods_cons (i64_wf z5) (goods_nil _ _))))))
  · have p0 := True.intro
    simp only [Vote.atoms, wtL_append, nums, digs, intA, pairA, flagL, digL, textL, listL, benchL, List.map, wtL, Atom.wt, flagB, be_len, List.length_cons, List.length_nil, Rows.uptoBulkAll, Rows.uptoBulk] at *
    omega
theorem open_Guilt {H : Type} (enc : TypeId × Value → H) (W : World) (sp : Nat → Bool) : Opened enc W sp Guilt.flds Guilt.atoms 27 := by
  intro fuel cs x h
  obtain ⟨ys, m, _, rfl, hn, hlen, hfs⟩ := DataW.trod_struct Try.underlying27 h
  rw [Try.cellsOfGuilt] at hn
  obtain ⟨x0, r0, rfl, hn0⟩ := listN hn
  obtain ⟨x1, r1, rfl, hn1⟩ := listN hn0
  obtain ⟨x2, r2, rfl, hn2⟩ := listN hn1
  obtain ⟨x3, r3, rfl, hn3⟩ := listN hn2
  obtain ⟨x4, r4, rfl, hn4⟩ := listN hn3
  obtain ⟨x5, r5, rfl, hn5⟩ := listN hn4
  obtain ⟨x6, r6, rfl, hn6⟩ := listN hn5
  obtain ⟨x7, r7, rfl, hn7⟩ := listN hn6
  obtain ⟨x8, r8, rfl, hn8⟩ := listN hn7
  obtain ⟨x9, r9, rfl, hn9⟩ := listN hn8
  obtain ⟨x10, r10, rfl, hn10⟩ := listN hn9
  obtain ⟨x11, r11, rfl, hn11⟩ := listN hn10
  obtain rfl := list0 hn11
  have hlen : ys.length = 2 := by simpa using hlen
  obtain ⟨y0, s0, rfl, hk0⟩ := listN hlen
  obtain ⟨y1, s1, rfl, hk1⟩ := listN hk0
  obtain rfl := list0 hk1
  have g0 := hfs 0 _ rfl
  simp [Try.cellsOfVote] at g0
  obtain ⟨n0, e0, k0, b0⟩ := open_Vote enc W sp _ _ _ g0
  have g1 := hfs 1 _ rfl
  simp [Try.cellsOfVote] at g1
  obtain ⟨n1, e1, k1, b1⟩ := open_Vote enc W sp _ _ _ g1
  simp only [Vote.flds, Guilt.flds, Cert.flds, Header.flds, Turn.flds, Proof.flds, Sight.flds, Tx.flds, Block.flds, Motion.flds, Known.flds, Message.flds, Record.flds, Fld.val, Lst.fld, List.map_cons, List.map_nil, List.map_append, List.cons_append, List.nil_append, List.length_map, List.cons.injEq, and_true] at e0
  obtain ⟨rfl, rfl, rfl, rfl, rfl, rfl⟩ := e0
  simp only [Vote.flds, Guilt.flds, Cert.flds, Header.flds, Turn.flds, Proof.flds, Sight.flds, Tx.flds, Block.flds, Motion.flds, Known.flds, Message.flds, Record.flds, Fld.val, Lst.fld, List.map_cons, List.map_nil, List.map_append, List.cons_append, List.nil_append, List.length_map, List.cons.injEq, and_true] at e1
  obtain ⟨rfl, rfl, rfl, rfl, rfl, rfl⟩ := e1
  refine ⟨⟨n0, n1⟩, ?_, ?_, ?_⟩
  · simp [Vote.flds, Guilt.flds, Cert.flds, Header.flds, Turn.flds, Proof.flds, Sight.flds, Tx.flds, Block.flds, Motion.flds, Known.flds, Message.flds, Record.flds, Fld.val, Lst.fld, pairF]
  · exact goods.mk k0 (k1)
  · have p0 := bulk_pos y0.1
    have p1 := bulk_pos y1.1
    simp only [Guilt.atoms, wtL_append, nums, digs, intA, pairA, flagL, digL, textL, listL, benchL, List.map, wtL, Atom.wt, flagB, be_len, List.length_cons, List.length_nil, Rows.uptoBulkAll, Rows.uptoBulk] at *
    omega
theorem open_Block {H : Type} (enc : TypeId × Value → H) (W : World) (sp : Nat → Bool) : Opened enc W sp Block.flds Block.atoms 70 := by
  intro fuel cs x h
  obtain ⟨ys, m, _, rfl, hn, hlen, hfs⟩ := DataW.trod_struct Try.underlying70 h
  rw [Try.cellsOfBlock] at hn
  obtain ⟨x0, r0, rfl, hn0⟩ := listN hn
  obtain ⟨x1, r1, rfl, hn1⟩ := listN hn0
  obtain ⟨x2, r2, rfl, hn2⟩ := listN hn1
  obtain ⟨x3, r3, rfl, hn3⟩ := listN hn2
  obtain ⟨x4, r4, rfl, hn4⟩ := listN hn3
  obtain ⟨x5, r5, rfl, hn5⟩ := listN hn4
  obtain ⟨x6, r6, rfl, hn6⟩ := listN hn5
  obtain ⟨x7, r7, rfl, hn7⟩ := listN hn6
  obtain ⟨x8, r8, rfl, hn8⟩ := listN hn7
  obtain ⟨x9, r9, rfl, hn9⟩ := listN hn8
  obtain ⟨x10, r10, rfl, hn10⟩ := listN hn9
  obtain rfl := list0 hn10
  have hlen : ys.length = 3 := by simpa using hlen
  obtain ⟨y0, s0, rfl, hk0⟩ := listN hlen
  obtain ⟨y1, s1, rfl, hk1⟩ := listN hk0
  obtain ⟨y2, s2, rfl, hk2⟩ := listN hk1
  obtain rfl := list0 hk2
  have g0 := hfs 0 _ rfl
  simp [Try.cellsOfHeader] at g0
  obtain ⟨n0, e0, k0, b0⟩ := open_Header enc W sp _ _ _ g0
  have g1 := hfs 1 _ rfl
  simp [Try.cellsOfLTx] at g1
  obtain ⟨n1, e1, k1, b1⟩ := open_lst (atoms := Tx.atoms) Tx.len (by omega) Try.underlying62 Try.cellsOfTx (open_Tx enc W sp) _ _ _ g1
  have g2 := hfs 2 _ rfl
  simp [Try.cellsOfLGuilt] at g2
  obtain ⟨n2, e2, k2, b2⟩ := open_lst (atoms := Guilt.atoms) Guilt.len (by omega) Try.underlying68 Try.cellsOfGuilt (open_Guilt enc W sp) _ _ _ g2
  simp only [Vote.flds, Guilt.flds, Cert.flds, Header.flds, Turn.flds, Proof.flds, Sight.flds, Tx.flds, Block.flds, Motion.flds, Known.flds, Message.flds, Record.flds, Fld.val, Lst.fld, List.map_cons, List.map_nil, List.map_append, List.cons_append, List.nil_append, List.length_map, List.cons.injEq, and_true] at e0
  obtain ⟨rfl, rfl, rfl, rfl, rfl, rfl, rfl, rfl, rfl⟩ := e0
  simp only [List.cons.injEq, and_true] at e1
  subst e1
  simp only [List.cons.injEq, and_true] at e2
  subst e2
  refine ⟨⟨n0, n1, n2⟩, ?_, ?_, ?_⟩
  · simp [Vote.flds, Guilt.flds, Cert.flds, Header.flds, Turn.flds, Proof.flds, Sight.flds, Tx.flds, Block.flds, Motion.flds, Known.flds, Message.flds, Record.flds, Fld.val, Lst.fld, pairF]
  · exact goods.mk k0 (goods_cons (k1) (goods_cons (k2) (goods_nil _ _)))
  · have p0 := bulk_pos y0.1
    have p1 := bulk_pos y1.1
    have p2 := bulk_pos y2.1
    simp only [Block.atoms, wtL_append, nums, digs, intA, pairA, flagL, digL, textL, listL, benchL, List.map, wtL, Atom.wt, flagB, be_len, List.length_cons, List.length_nil, Rows.uptoBulkAll, Rows.uptoBulk] at *
    omega
end Go.Proofs.Ytgcebahlfgclgaa
