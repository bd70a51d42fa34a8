import Derived.Test.YtackcbpabjhmpaaGreatWMay
namespace Go.Proofs.YtackcbpabjhmpaaGreat
open Go.RowKit
set_option linter.unusedVariables false
set_option linter.unusedSimpArgs false
structure Vote where
 h : Int
 r : Int
 s : Int
 has : Bool
 bl : Int
 f : Int
structure Guilt where
 a : Vote
 c : Vote
structure Cert where
 h : Int
 r : Int
 s : Int
 has : Bool
 bl : Int
 fr : Lst Int
structure Header where
 c : Int
 h : Int
 pa : Int
 tx : Int
 gu : Int
 st : Int
 re : Int
 be : Int
 pr : Int
structure Turn where
 p : Int
 d : Int
structure Proof where
 tu : Lst Turn
 leaf : Bool
 key : List UInt8
 val : List UInt8
structure Sight where
 hd : Header
 ce : Cert
 se : Lst (Int × Int)
structure Tx where
 k : Int
 f : Int
 n : Int
 p : Int
 li : Int
 to : Int
 am : Int
 te : List UInt8
 ar : Lst Int
 si : Lst Sight
 pr : Lst Proof
structure Block where
 hd : Header
 tx : Lst Tx
 gu : Lst Guilt
structure Motion where
 ro : Int
 fr : Int
 bl : Block
 ba : Lst Cert
structure Known where
 ce : Cert
 bl : Block
structure Message where
 fr : Int
 to : Int
 h : Int
 vo : Lst Vote
 mo : Lst Motion
 kn : Lst Known
 tx : Lst Tx
structure Record where
 k : Int
 vo : Vote
 mo : Motion
 kn : Known
def intF (n : Int) : List Fld := [.i n]
def pairF (p : Int × Int) : List Fld := [.i p.1, .i p.2]
def Vote.flds (x : Vote) : List Fld := [.i x.h, .i x.r, .i x.s, .b x.has, .d x.bl, .i x.f]
def Guilt.flds (x : Guilt) : List Fld := x.a.flds ++ x.c.flds
def Cert.flds (x : Cert) : List Fld := [.i x.h, .i x.r, .i x.s, .b x.has, .d x.bl, x.fr.fld intF]
def Header.flds (x : Header) : List Fld := [.i x.c, .i x.h, .d x.pa, .d x.tx, .d x.gu, .d x.st, .d x.re, .d x.be, .i x.pr]
def Turn.flds (x : Turn) : List Fld := [.i x.p, .d x.d]
def Proof.flds (x : Proof) : List Fld := [x.tu.fld Turn.flds, .b x.leaf, .s x.key, .s x.val]
def Sight.flds (x : Sight) : List Fld := x.hd.flds ++ (x.ce.flds ++ [x.se.fld pairF])
def Tx.flds (x : Tx) : List Fld := [.i x.k, .i x.f, .i x.n, .i x.p, .i x.li, .i x.to, .i x.am, .s x.te, x.ar.fld intF, x.si.fld Sight.flds, x.pr.fld Proof.flds]
def Block.flds (x : Block) : List Fld := x.hd.flds ++ [x.tx.fld Tx.flds, x.gu.fld Guilt.flds]
def Motion.flds (x : Motion) : List Fld := [.i x.ro, .i x.fr] ++ (x.bl.flds ++ [x.ba.fld Cert.flds])
def Known.flds (x : Known) : List Fld := x.ce.flds ++ x.bl.flds
def Message.flds (x : Message) : List Fld := [.i x.fr, .i x.to, .i x.h, x.vo.fld Vote.flds, x.mo.fld Motion.flds, x.kn.fld Known.flds, x.tx.fld Tx.flds]
def Record.flds (x : Record) : List Fld := [.i x.k] ++ (x.vo.flds ++ (x.mo.flds ++ x.kn.flds))
theorem intF_len (x : Int) : (intF x).length = 1 := rfl
theorem pairF_len (x : Int × Int) : (pairF x).length = 2 := rfl
theorem Vote.len (x : Vote) : x.flds.length = 6 := rfl
theorem Guilt.len (x : Guilt) : x.flds.length = 12 := rfl
theorem Cert.len (x : Cert) : x.flds.length = 6 := rfl
theorem Header.len (x : Header) : x.flds.length = 9 := rfl
theorem Turn.len (x : Turn) : x.flds.length = 2 := rfl
theorem Proof.len (x : Proof) : x.flds.length = 4 := rfl
theorem Sight.len (x : Sight) : x.flds.length = 16 := rfl
theorem Tx.len (x : Tx) : x.flds.length = 11 := rfl
theorem Block.len (x : Block) : x.flds.length = 11 := rfl
theorem Motion.len (x : Motion) : x.flds.length = 14 := rfl
theorem Known.len (x : Known) : x.flds.length = 17 := rfl
def intA (n : Int) : List Atom := [.num 1099511627775 n]
def pairA (p : Int × Int) : List Atom := [.num 1099511627775 p.1, .num 1099511627775 p.2]
def Vote.atoms (x : Vote) : List Atom := nums [x.h, x.r, x.s] ++ flagL x.has ++ digL x.bl ++ intA x.f
def Guilt.atoms (x : Guilt) : List Atom := x.a.atoms ++ x.c.atoms
def Cert.atoms (x : Cert) : List Atom := nums [x.h, x.r, x.s] ++ flagL x.has ++ digL x.bl ++ listL 7 intA x.fr.xs
def digs (l : List Int) : List Atom := l.map fun d => Atom.raw (Go.Proofs.YtackcbpabjhmpaaGreat.be d 8)
def Header.atoms (x : Header) : List Atom := nums [x.c, x.h] ++ digs [x.pa, x.tx, x.gu, x.st, x.re, x.be] ++ intA x.pr
def Turn.atoms (x : Turn) : List Atom := [Atom.num 287 x.p] ++ digL x.d
def Proof.atoms (x : Proof) : List Atom := listL 288 Turn.atoms x.tu.xs ++ flagL x.leaf ++ textL 32 x.key ++ textL 4096 x.val
def benchL (l : List (Int × Int)) : List Atom := listL 7 pairA l
def Sight.atoms (x : Sight) : List Atom := x.hd.atoms ++ x.ce.atoms ++ benchL x.se.xs
def Tx.atoms (x : Tx) : List Atom := nums [x.k, x.f, x.n, x.p, x.li, x.to, x.am] ++ textL 2048 x.te ++ listL 8 intA x.ar.xs ++ listL 1 Sight.atoms x.si.xs ++ listL 1 Proof.atoms x.pr.xs
def Block.atoms (x : Block) : List Atom := x.hd.atoms ++ listL 16 Tx.atoms x.tx.xs ++ listL 4 Guilt.atoms x.gu.xs
def Motion.atoms (x : Motion) : List Atom := nums [x.ro, x.fr] ++ x.bl.atoms ++ listL 1 Cert.atoms x.ba.xs
def Known.atoms (x : Known) : List Atom := x.ce.atoms ++ x.bl.atoms
def Message.atoms (x : Message) : List Atom := nums [x.fr, x.to, x.h] ++ listL 512 Vote.atoms x.vo.xs ++ listL 2 Motion.atoms x.mo.xs ++ listL 2 Known.atoms x.kn.xs ++ listL 16 Tx.atoms x.tx.xs
def Record.tail (x : Record) : List Atom := if x.k = 1 then x.vo.atoms else if x.k = 2 then x.mo.atoms else if x.k = 3 ∨ x.k = 4 then x.kn.atoms else []
def Record.atoms (x : Record) : List Atom := intA x.k ++ x.tail
theorem intA_fit (n : Int) : fitL (intA n) := ⟨Int.le_refl _, trivial⟩
theorem pairA_fit (n : Int × Int) : fitL (pairA n) := ⟨Int.le_refl _, Int.le_refl _, trivial⟩
theorem nums_fit (l : List Int) : fitL (nums l) := by
 induction l with
 | nil => trivial
 | cons n r ih => exact ⟨Int.le_refl _, ih⟩
theorem digs_fit (l : List Int) : fitL (digs l) := by
 induction l with
 | nil => trivial
 | cons n r ih => exact ⟨trivial, ih⟩
theorem flagL_fit (x : Bool) : fitL (flagL x) := ⟨trivial, trivial⟩
theorem digL_fit (x : Int) : fitL (digL x) := ⟨trivial, trivial⟩
theorem textL_fit (most : Int) (l : List UInt8) (h : most ≤ 1099511627775) : fitL (textL most l) := ⟨h, trivial, trivial⟩
theorem Vote.fit (x : Vote) : fitL x.atoms := (fitL_append _ _).2 ⟨(fitL_append _ _).2 ⟨(fitL_append _ _).2 ⟨nums_fit _, flagL_fit _⟩, digL_fit _⟩, intA_fit _⟩
theorem Guilt.fit (x : Guilt) : fitL x.atoms := (fitL_append _ _).2 ⟨x.a.fit, x.c.fit⟩
theorem Cert.fit (x : Cert) : fitL x.atoms := (fitL_append _ _).2 ⟨(fitL_append _ _).2 ⟨(fitL_append _ _).2 ⟨nums_fit _, flagL_fit _⟩, digL_fit _⟩, listL_fit _ _ _ (by omega) fun y _ => intA_fit y⟩
theorem Header.fit (x : Header) : fitL x.atoms := (fitL_append _ _).2 ⟨(fitL_append _ _).2 ⟨nums_fit _, digs_fit _⟩, intA_fit _⟩
theorem Turn.fit (x : Turn) : fitL x.atoms := (fitL_append _ _).2 ⟨⟨show (287 : Int) ≤ 1099511627775 by omega, trivial⟩, digL_fit _⟩
theorem Proof.fit (x : Proof) : fitL x.atoms := (fitL_append _ _).2 ⟨(fitL_append _ _).2 ⟨(fitL_append _ _).2 ⟨listL_fit _ _ _ (by omega) fun y _ => y.fit, flagL_fit _⟩, textL_fit _ _ (by omega)⟩, textL_fit _ _ (by omega)⟩
theorem benchL_fit (l : List (Int × Int)) : fitL (benchL l) := listL_fit _ _ _ (by omega) fun y _ => pairA_fit y
theorem Sight.fit (x : Sight) : fitL x.atoms := (fitL_append _ _).2 ⟨(fitL_append _ _).2 ⟨x.hd.fit, x.ce.fit⟩, benchL_fit _⟩
theorem Tx.fit (x : Tx) : fitL x.atoms := (fitL_append _ _).2 ⟨(fitL_append _ _).2 ⟨(fitL_append _ _).2 ⟨(fitL_append _ _).2 ⟨nums_fit _, textL_fit _ _ (by omega)⟩, listL_fit _ _ _ (by omega) fun y _ => intA_fit y⟩, listL_fit _ _ _ (by omega) fun y _ => y.fit⟩, listL_fit _ _ _ (by omega) fun y _ => y.fit⟩
theorem Block.fit (x : Block) : fitL x.atoms := (fitL_append _ _).2 ⟨(fitL_append _ _).2 ⟨x.hd.fit, listL_fit _ _ _ (by omega) fun y _ => y.fit⟩, listL_fit _ _ _ (by omega) fun y _ => y.fit⟩
theorem Motion.fit (x : Motion) : fitL x.atoms := (fitL_append _ _).2 ⟨(fitL_append _ _).2 ⟨nums_fit _, x.bl.fit⟩, listL_fit _ _ _ (by omega) fun y _ => y.fit⟩
theorem Known.fit (x : Known) : fitL x.atoms := (fitL_append _ _).2 ⟨x.ce.fit, x.bl.fit⟩
theorem Message.fit (x : Message) : fitL x.atoms := (fitL_append _ _).2 ⟨(fitL_append _ _).2 ⟨(fitL_append _ _).2 ⟨(fitL_append _ _).2 ⟨nums_fit _, listL_fit _ _ _ (by omega) fun y _ => y.fit⟩, listL_fit _ _ _ (by omega) fun y _ => y.fit⟩, listL_fit _ _ _ (by omega) fun y _ => y.fit⟩, listL_fit _ _ _ (by omega) fun y _ => y.fit⟩
theorem Record.fit (x : Record) : fitL x.atoms := by
 refine (fitL_append _ _).2 ⟨intA_fit _, ?_⟩
 unfold Record.tail
 split
 ·exact x.vo.fit
 ·split
  ·exact x.mo.fit
  ·split
   ·exact x.kn.fit
   ·trivial
end Go.Proofs.YtackcbpabjhmpaaGreat
