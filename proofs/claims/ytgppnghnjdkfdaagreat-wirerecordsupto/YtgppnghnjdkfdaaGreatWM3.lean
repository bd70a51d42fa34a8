/- The things of the document as plain data: their cells, what is written of them. -/
import Derived.Test.YtgppnghnjdkfdaaGreatWM2
import Derived.Test.YtgppnghnjdkfdaaGreatWMay

namespace Go.Proofs.YtgppnghnjdkfdaaGreat
open Go.RowKit
set_option linter.unusedVariables false

structure Vote where
  h : Int
  r : Int
  s : Int
  has : Bool
  bl : Int
  f : Int
structure Guilt where
  a : Vote
  c : Vote
structure Cert where
  h : Int
  r : Int
  s : Int
  has : Bool
  bl : Int
  fr : Lst Int
structure Header where
  c : Int
  h : Int
  pa : Int
  tx : Int
  gu : Int
  st : Int
  re : Int
  be : Int
  pr : Int
structure Turn where
  p : Int
  d : Int
structure Proof where
  tu : Lst Turn
  leaf : Bool
  key : List UInt8
  val : List UInt8
structure Sight where
  hd : Header
  ce : Cert
  se : Lst (Int × Int)
structure Tx where
  k : Int
  f : Int
  n : Int
  p : Int
  li : Int
  to : Int
  am : Int
  te : List UInt8
  ar : Lst Int
  si : Lst Sight
  pr : Lst Proof
structure Block where
  hd : Header
  tx : Lst Tx
  gu : Lst Guilt
structure Motion where
  ro : Int
  fr : Int
  bl : Block
  ba : Lst Cert
structure Known where
  ce : Cert
  bl : Block
structure Message where
  fr : Int
  to : Int
  h : Int
  vo : Lst Vote
  mo : Lst Motion
  kn : Lst Known
  tx : Lst Tx
structure Record where
  k : Int
  vo : Vote
  mo : Motion
  kn : Known

def intF (n : Int) : List Fld := [.i n]
def pairF (p : Int × Int) : List Fld := [.i p.1, .i p.2]
def Vote.flds (x : Vote) : List Fld := [.i x.h, .i x.r, .i x.s, .b x.has, .d x.bl, .i x.f]
def Guilt.flds (x : Guilt) : List Fld := x.a.flds ++ x.c.flds
def Cert.flds (x : Cert) : List Fld := [.i x.h, .i x.r, .i x.s, .b x.has, .d x.bl, x.fr.fld intF]
def Header.flds (x : Header) : List Fld := [.i x.c, .i x.h, .d x.pa, .d x.tx, .d x.gu, .d x.st, .d x.re, .d x.be, .i x.pr]
def Turn.flds (x : Turn) : List Fld := [.i x.p, .d x.d]
def Proof.flds (x : Proof) : List Fld := [x.tu.fld Turn.flds, .b x.leaf, .s x.key, .s x.val]
def Sight.flds (x : Sight) : List Fld := x.hd.flds ++ (x.ce.flds ++ [x.se.fld pairF])
def Tx.flds (x : Tx) : List Fld := [.i x.k, .i x.f, .i x.n, .i x.p, .i x.li, .i x.to, .i x.am, .s x.te, x.ar.fld intF, x.si.fld Sight.flds, x.pr.fld Proof.flds]
def Block.flds (x : Block) : List Fld := x.hd.flds ++ [x.tx.fld Tx.flds, x.gu.fld Guilt.flds]
def Motion.flds (x : Motion) : List Fld := [.i x.ro, .i x.fr] ++ (x.bl.flds ++ [x.ba.fld Cert.flds])
def Known.flds (x : Known) : List Fld := x.ce.flds ++ x.bl.flds
def Message.flds (x : Message) : List Fld := [.i x.fr, .i x.to, .i x.h, x.vo.fld Vote.flds, x.mo.fld Motion.flds, x.kn.fld Known.flds, x.tx.fld Tx.flds]
def Record.flds (x : Record) : List Fld := [.i x.k] ++ (x.vo.flds ++ (x.mo.flds ++ x.kn.flds))
theorem intF_len (x : Int) : (intF x).length = 1 := rfl
theorem pairF_len (x : Int × Int) : (pairF x).length = 2 := rfl
theorem Vote.len (x : Vote) : x.flds.length = 6 := rfl
theorem Guilt.len (x : Guilt) : x.flds.length = 12 := rfl
theorem Cert.len (x : Cert) : x.flds.length = 6 := rfl
theorem Header.len (x : Header) : x.flds.length = 9 := rfl
theorem Turn.len (x : Turn) : x.flds.length = 2 := rfl
theorem Proof.len (x : Proof) : x.flds.length = 4 := rfl
theorem Sight.len (x : Sight) : x.flds.length = 16 := rfl
theorem Tx.len (x : Tx) : x.flds.length = 11 := rfl
theorem Block.len (x : Block) : x.flds.length = 11 := rfl
theorem Motion.len (x : Motion) : x.flds.length = 14 := rfl
theorem Known.len (x : Known) : x.flds.length = 17 := rfl

def intA (n : Int) : List Atom := [.num 1099511627775 n]
def pairA (p : Int × Int) : List Atom := [.num 1099511627775 p.1, .num 1099511627775 p.2]
def Vote.atoms (x : Vote) : List Atom := nums [x.h, x.r, x.s] ++ flagL x.has ++ digL x.bl ++ intA x.f
def Guilt.atoms (x : Guilt) : List Atom := x.a.atoms ++ x.c.atoms
def Cert.atoms (x : Cert) : List Atom := nums [x.h, x.r, x.s] ++ flagL x.has ++ digL x.bl ++ listL 7 intA x.fr.xs
def digs (l : List Int) : List Atom := l.map fun d => Atom.raw (Go.Proofs.YtgppnghnjdkfdaaGreat.be d 8)
def Header.atoms (x : Header) : List Atom := nums [x.c, x.h] ++ digs [x.pa, x.tx, x.gu, x.st, x.re, x.be] ++ intA x.pr
def Turn.atoms (x : Turn) : List Atom := [Atom.num 287 x.p] ++ digL x.d
def Proof.atoms (x : Proof) : List Atom := listL 288 Turn.atoms x.tu.xs ++ flagL x.leaf ++ textL 32 x.key ++ textL 4096 x.val
def benchL (l : List (Int × Int)) : List Atom := listL 7 pairA l
def Sight.atoms (x : Sight) : List Atom := x.hd.atoms ++ x.ce.atoms ++ benchL x.se.xs
def Tx.atoms (x : Tx) : List Atom := nums [x.k, x.f, x.n, x.p, x.li, x.to, x.am] ++ textL 2048 x.te ++ listL 8 intA x.ar.xs ++ listL 1 Sight.atoms x.si.xs ++ listL 1 Proof.atoms x.pr.xs
def Block.atoms (x : Block) : List Atom := x.hd.atoms ++ listL 16 Tx.atoms x.tx.xs ++ listL 4 Guilt.atoms x.gu.xs
def Motion.atoms (x : Motion) : List Atom := nums [x.ro, x.fr] ++ x.bl.atoms ++ listL 1 Cert.atoms x.ba.xs
def Known.atoms (x : Known) : List Atom := x.ce.atoms ++ x.bl.atoms
def Message.atoms (x : Message) : List Atom := nums [x.fr, x.to, x.h] ++ listL 512 Vote.atoms x.vo.xs ++ listL 2 Motion.atoms x.mo.xs ++ listL 2 Known.atoms x.kn.xs ++ listL 16 Tx.atoms x.tx.xs
def Record.tail (x : Record) : List Atom := if x.k = 1 then x.vo.atoms else if x.k = 2 then x.mo.atoms else if x.k = 3 ∨ x.k = 4 then x.kn.atoms else []
def Record.atoms (x : Record) : List Atom := intA x.k ++ x.tail
theorem intA_fit (n : Int) : fitL (intA n) := ⟨Int.le_refl _, trivial⟩
theorem pairA_fit (n : Int × Int) : fitL (pairA n) := ⟨Int.le_refl _, Int.le_refl _, trivial⟩
theorem nums_fit (l : List Int) : fitL (nums l) := by
  induction l with
  | nil => trivial
  | cons n r ih => exact ⟨Int.le_refl _, ih⟩
theorem digs_fit (l : List Int) : fitL (digs l) := by
  induction l with
  | nil => trivial
  | cons n r ih => exact ⟨trivial, ih⟩
theorem flagL_fit (x : Bool) : fitL (flagL x) := ⟨trivial, trivial⟩
theorem digL_fit (x : Int) : fitL (digL x) := ⟨trivial, trivial⟩
theorem textL_fit (most : Int) (l : List UInt8) (h : most ≤ 1099511627775) : fitL (textL most l) := ⟨h, trivial, trivial⟩
theorem Vote.fit (x : Vote) : fitL x.atoms := (fitL_append _ _).2 ⟨(fitL_append _ _).2 ⟨(fitL_append _ _).2 ⟨nums_fit _, flagL_fit _⟩, digL_fit _⟩, intA_fit _⟩
theorem Guilt.fit (x : Guilt) : fitL x.atoms := (fitL_append _ _).2 ⟨x.a.fit, x.c.fit⟩
theorem Cert.fit (x : Cert) : fitL x.atoms := (fitL_append _ _).2 ⟨(fitL_append _ _).2 ⟨(fitL_append _ _).2 ⟨nums_fit _, flagL_fit _⟩, digL_fit _⟩, listL_fit _ _ _ (by omega) fun y _ => intA_fit y⟩
theorem Header.fit (x : Header) : fitL x.atoms := (fitL_append _ _).2 ⟨(fitL_append _ _).2 ⟨nums_fit _, digs_fit _⟩, intA_fit _⟩
theorem Turn.fit (x : Turn) : fitL x.atoms := (fitL_append _ _).2 ⟨⟨show (287 : Int) ≤ 1099511627775 by omega, trivial⟩, digL_fit _⟩
theorem Proof.fit (x : Proof) : fitL x.atoms := (fitL_append _ _).2 ⟨(fitL_append _ _).2 ⟨(fitL_append _ _).2 ⟨listL_fit _ _ _ (by omega) fun y _ => y.fit, flagL_fit _⟩, textL_fit _ _ (by omega)⟩, textL_fit _ _ (by omega)⟩
theorem benchL_fit (l : List (Int × Int)) : fitL (benchL l) := listL_fit _ _ _ (by omega) fun y _ => pairA_fit y
theorem Sight.fit (x : Sight) : fitL x.atoms := (fitL_append _ _).2 ⟨(fitL_append _ _).2 ⟨x.hd.fit, x.ce.fit⟩, benchL_fit _⟩
theorem Tx.fit (x : Tx) : fitL x.atoms := (fitL_append _ _).2 ⟨(fitL_append _ _).2 ⟨(fitL_append _ _).2 ⟨(fitL_append _ _).2 ⟨nums_fit _, textL_fit _ _ (by omega)⟩, listL_fit _ _ _ (by omega) fun y _ => intA_fit y⟩, listL_fit _ _ _ (by omega) fun y _ => y.fit⟩, listL_fit _ _ _ (by omega) fun y _ => y.fit⟩
theorem Block.fit (x : Block) : fitL x.atoms := (fitL_append _ _).2 ⟨(fitL_append _ _).2 ⟨x.hd.fit, listL_fit _ _ _ (by omega) fun y _ => y.fit⟩, listL_fit _ _ _ (by omega) fun y _ => y.fit⟩
theorem Motion.fit (x : Motion) : fitL x.atoms := (fitL_append _ _).2 ⟨(fitL_append _ _).2 ⟨nums_fit _, x.bl.fit⟩, listL_fit _ _ _ (by omega) fun y _ => y.fit⟩
theorem Known.fit (x : Known) : fitL x.atoms := (fitL_append _ _).2 ⟨x.ce.fit, x.bl.fit⟩
theorem Message.fit (x : Message) : fitL x.atoms := (fitL_append _ _).2 ⟨(fitL_append _ _).2 ⟨(fitL_append _ _).2 ⟨(fitL_append _ _).2 ⟨nums_fit _, listL_fit _ _ _ (by omega) fun y _ => y.fit⟩, listL_fit _ _ _ (by omega) fun y _ => y.fit⟩, listL_fit _ _ _ (by omega) fun y _ => y.fit⟩, listL_fit _ _ _ (by omega) fun y _ => y.fit⟩
theorem Record.fit (x : Record) : fitL x.atoms := by
  refine (fitL_append _ _).2 ⟨intA_fit _, ?_⟩
  unfold Record.tail
  split
  · exact x.vo.fit
  · split
    · exact x.mo.fit
    · split
      · exact x.kn.fit
      · trivial
end Go.Proofs.YtgppnghnjdkfdaaGreat

namespace Go.Proofs.YtgppnghnjdkfdaaGreat
open Go.RowKit
set_option linter.unusedVariables false
set_option linter.unusedSimpArgs false

















end Go.Proofs.YtgppnghnjdkfdaaGreat

namespace Go.Proofs.YtgppnghnjdkfdaaGreat
open Go.RowKit
set_option linter.unusedVariables false

theorem flagW (base b : Nat) (a : Addr) (x : Bool) (out : List UInt8) (w : World) (hL : out.length ≤ 1099511627776) (hP : PassAt w base b out) (ha : w.cell? a = some (.bool x)) :
    Calls Tryz.prog 36 #[.pointer (some ⟨b, 0, none⟩), .pointer (some a)] w fun e w' => Wr base b out (flagL x) e w' ∧ Kp base b w w' :=
  (flag_any base b a x out w hL hP ha).mono fun e w' ⟨h1, h2, h3⟩ => ⟨.inl ⟨rfl, h1, by simpa [flagL, encL, Atom.enc] using h2⟩, h3⟩
theorem digestW (base b : Nat) (a : Addr) (d : Int) (out : List UInt8) (w : World) (hd : 0 ≤ d ∧ d ≤ 18446744073709551615) (hL : out.length ≤ 1099511627776) (hP : PassAt w base b out) (ha : w.cell? a = some (.int .u64 d)) :
    Calls Tryz.prog 37 #[.pointer (some ⟨b, 0, none⟩), .pointer (some a)] w fun e w' => Wr base b out (digL d) e w' ∧ Kp base b w w' :=
  (digest_any base b a d out w hd hL hP ha).mono fun e w' ⟨h1, h2, h3⟩ => ⟨.inl ⟨rfl, h1, by simpa [digL, encL, Atom.enc] using h2⟩, h3⟩
theorem numberW (base b : Nat) (a : Addr) (n : Int) (out : List UInt8) (w : World) (hL : out.length ≤ 1099511627776) (hP : PassAt w base b out) (ha : w.cell? a = some (.int .i64 n)) :
    Calls Tryz.prog 16 #[.pointer (some ⟨b, 0, none⟩), .pointer (some a)] w fun e w' => Wr base b out (intA n) e w' ∧ Kp base b w w' :=
  (number_any base b a n out w hL hP ha).mono fun e w' ⟨h1, h2⟩ => ⟨h1.wr (pNum_at _ _ _), h2⟩
theorem boundedW (base b : Nat) (a : Addr) (n most : Int) (out : List UInt8) (w : World) (hm : most ≤ 1099511627775) (hL : out.length ≤ 1099511627776) (hP : PassAt w base b out) (ha : w.cell? a = some (.int .i64 n)) :
    Calls Tryz.prog 34 #[.pointer (some ⟨b, 0, none⟩), .pointer (some a), .int .i64 most] w fun e w' => Wr base b out [Atom.num most n] e w' ∧ Kp base b w w' :=
  (bounded_any base b a n most out w hm hL hP ha).mono fun e w' ⟨h1, h2⟩ => ⟨h1.wr (pNum_at _ _ _), h2⟩
theorem numbersW (base b lb cap : Nat) (ads : List Addr) (ns : List Int) (out : List UInt8) (w : World) (hn : ns.length ≤ 16) (hL : out.length ≤ 1099511627000) (hP : PassAt w base b out) (hA : Ptrs w b lb ads ns) :
    Calls Tryz.prog 35 #[.pointer (some ⟨b, 0, none⟩), .slice (some ⟨lb, 0, none⟩) ns.length cap] w fun e w' => Wr base b out (nums ns) e w' ∧ Kp base b w w' :=
  (numbers_any base b lb cap ads ns out w hn hL hP hA).mono fun e w' ⟨h1, h2⟩ => ⟨h1.wr (pNums_at _ _), h2⟩

set_option maxHeartbeats 1600000 in
theorem textW (base b : Nat) (a : Addr) (s : List UInt8) (most : Int) (out : List UInt8) (w : World) (hm : most ≤ 1099511627775) (hs9 : s.length ≤ 1099511627775) (hL : out.length + s.length ≤ 1099511627000) (hP : PassAt w base b out) (hs : Safe w b a.block) (ha : w.cell? a = some (.string ⟨s.toArray⟩)) :
    Calls Tryz.prog 77 #[.pointer (some ⟨b, 0, none⟩), .pointer (some a), .int .i64 most] w fun e w' => Wr base b out (textL most s) e w' ∧ Kp base b w w' := by
  obtain ⟨i0, hinf, hz0, hz1, hz2⟩ := info_parts infoByte
  obtain ⟨c0, _, hlt, hb⟩ := hP.cells
  have hB0 : base ≤ w.heap.size := Nat.le_trans hb (Nat.le_of_lt hlt)
  have hal := hs.2.1
  have bA : Below w.heap.size w (w.alloc (.cells #[.int .i64 (s.length : Int)] 3)) := (Below.refl _ _).alloc (Nat.le_refl _) _
  have kA : Kp base b w (w.alloc (.cells #[.int .i64 (s.length : Int)] 3)) := Kp.of_below bA hB0
  have kN := Blk.new w #[.int .i64 (s.length : Int)] 3
  have n0 := kN.cell 0
  simp only [List.getElem?_toArray, List.getElem?_cons_zero] at n0
  have hsz : (⟨s.toArray⟩ : ByteArray).size = s.length := by simp [ByteArray.size]
  have hL1 : out.length ≤ 1099511627776 := by omega
  go_enter Tryz.func77, Tryz.ntmps77
  go_wp2_with fail
  refine (boundedW base b ⟨w.heap.size, 0, none⟩ (s.length : Int) most out _ hm hL1 (hP.below bA) n0).mono ?_
  rintro e w1 ⟨⟨ho1, rfl, P1⟩ | ⟨ho1, rfl⟩, k1⟩
  rotate_left
  · have H1 := show Hid (_ = _) from ho1
    clear ho1
    go_wp2
    exact ⟨rfl, .inr ⟨by have h := H1.out; simp only [okL, Bool.and_true] at h; simp [textL, okL, h], rfl⟩, kA.trans k1⟩
  have H1 := show Hid (_ = _) from ho1
  clear ho1
  have K1 := kA.trans k1
  have a1 : w1.cell? a = some (.string ⟨s.toArray⟩) := by rw [Safe.cell hs K1]; exact ha
  obtain ⟨r0, _, _, _⟩ := P1.cells
  have l1 : (out ++ encL [Atom.num most (s.length : Int)]).length ≤ out.length + 6 := by
    have := encL_len [Atom.num most (s.length : Int)]
    simp only [wtL, Atom.wt] at this
    rw [List.length_append]; omega
  obtain ⟨o1, Ho1⟩ : ∃ o, Hid (o = out ++ encL [Atom.num most (s.length : Int)]) := ⟨_, rfl⟩
  rw [← Ho1.out] at P1 l1
  obtain ⟨v, kP, hown, _⟩ := P1
  obtain ⟨av, cv, rfl⟩ := owns_form hown
  have c1 := kP.cell 1
  have f1 := kP.frozen 1
  have lt1 := kP.lt
  have hB1 : base ≤ w1.heap.size := Nat.le_trans hb (Nat.le_of_lt lt1)
  simp only [List.getElem?_toArray, List.getElem?_cons_succ, List.getElem?_cons_zero] at c1
  have hal1 : a.block < w1.heap.size := Nat.lt_of_lt_of_le hal K1.size
  clear c0 n0 bA kA kN ha
  go_wp2_with fail
  go_region_law
    (refine step_append_str _ (by rfl) _ _ _ _ (by rfl) b 5 i0 Tryz.underlying68 Tryz.underlying9 hinf hz0 hz1 hz2 (.slice av o1.length cv) o1.length (bcells o1) (by rfl) (owns_below hown (Below.refl _ _).drew) ⟨s.toArray⟩ (by rfl) (by rw [hsz]; unfold maxLen; omega) (by rw [hsz]; omega) (Nat.le_of_lt lt1) ?_
     intro a5 c5 w5 hown5 hgrow5
     have hown5' : w5.ownsRow b 5 1 (.slice a5 (o1.length + (⟨s.toArray⟩ : ByteArray).size) c5) (o1.length + s.length) (bcells o1 ++ bcells s) := by
       rw [← bcells_str]; exact hown5
     obtain ⟨kP5, hP6, hK6⟩ := pass_stored (more := s) (kP.below (Below.refl _ _).drew lt1) (owns_below hown (Below.refl _ _).drew) hb hgrow5 hown5'
     have c51 := kP5.cell 1
     have f51 := kP5.frozen 1
     have lt5 := kP5.lt
     simp only [List.getElem?_toArray, List.getElem?_cons_succ, List.getElem?_cons_zero] at c51)
  all_goals
    rw [hsz] at hP6 hK6
    go_end0
    have eo : okL (textL most s) = true := by
      have h := H1.out
      simp only [okL, Bool.and_true] at h
      show ((Atom.num most (s.length : Int)).ok && ((Atom.raw s).ok && true)) = true
      rw [h]; rfl
    have ee : out ++ encL (textL most s) = o1 ++ s := by rw [Ho1.out]; simp [textL, encL, Atom.enc, List.append_assoc]
    rw [← ee] at hP6
    exact ⟨.inl ⟨eo, rfl, hP6⟩, (K1.trans (Kp.of_below (Below.refl _ _).drew hB1)).trans hK6⟩
end Go.Proofs.YtgppnghnjdkfdaaGreat
