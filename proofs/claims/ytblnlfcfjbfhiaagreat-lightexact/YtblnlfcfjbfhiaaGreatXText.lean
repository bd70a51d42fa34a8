/- A pass that writes: texts, digests, and all small parts once more, as lists of parts. -/
import Derived.Test.YtblnlfcfjbfhiaaGreatXThings
namespace Go.Proofs.YtblnlfcfjbfhiaaGreat.W
open Go.RowKit
set_option linter.unusedVariables false

theorem flagW (base b : Nat) (a : Addr) (x : Bool) (out : List UInt8) (w : World) (hL : out.length ≤ 1099511627776) (hP : PassAt w base b out) (ha : w.cell? a = some (.bool x)) :
    Calls Tryz.prog 88 #[.pointer (some ⟨b, 0, none⟩), .pointer (some a)] w fun e w' => Wr base b out (flagL x) e w' ∧ Kp base b w w' :=
  (flag_any base b a x out w hL hP ha).mono fun e w' ⟨h1, h2, h3⟩ => ⟨.inl ⟨rfl, h1, by simpa [flagL, encL, Atom.enc] using h2⟩, h3⟩

theorem digestW (base b : Nat) (a : Addr) (d : Int) (out : List UInt8) (w : World) (hd : 0 ≤ d ∧ d ≤ 18446744073709551615) (hL : out.length ≤ 1099511627776) (hP : PassAt w base b out) (ha : w.cell? a = some (.int .u64 d)) :
    Calls Tryz.prog 83 #[.pointer (some ⟨b, 0, none⟩), .pointer (some a)] w fun e w' => Wr base b out (digL d) e w' ∧ Kp base b w w' :=
  (digest_any base b a d out w hd hL hP ha).mono fun e w' ⟨h1, h2, h3⟩ => ⟨.inl ⟨rfl, h1, by simpa [digL, encL, Atom.enc] using h2⟩, h3⟩

theorem numberW (base b : Nat) (a : Addr) (n : Int) (out : List UInt8) (w : World) (hL : out.length ≤ 1099511627776) (hP : PassAt w base b out) (ha : w.cell? a = some (.int .i64 n)) :
    Calls Tryz.prog 61 #[.pointer (some ⟨b, 0, none⟩), .pointer (some a)] w fun e w' => Wr base b out (intA n) e w' ∧ Kp base b w w' :=
  (number_any base b a n out w hL hP ha).mono fun e w' ⟨h1, h2⟩ => ⟨h1.wr (pNum_at _ _ _), h2⟩

theorem boundedW (base b : Nat) (a : Addr) (n most : Int) (out : List UInt8) (w : World) (hm : most ≤ 1099511627775) (hL : out.length ≤ 1099511627776) (hP : PassAt w base b out) (ha : w.cell? a = some (.int .i64 n)) :
    Calls Tryz.prog 84 #[.pointer (some ⟨b, 0, none⟩), .pointer (some a), .int .i64 most] w fun e w' => Wr base b out [Atom.num most n] e w' ∧ Kp base b w w' :=
  (bounded_any base b a n most out w hm hL hP ha).mono fun e w' ⟨h1, h2⟩ => ⟨h1.wr (pNum_at _ _ _), h2⟩

theorem numbersW (base b lb cap : Nat) (ads : List Addr) (ns : List Int) (out : List UInt8) (w : World) (hn : ns.length ≤ 16) (hL : out.length ≤ 1099511627000) (hP : PassAt w base b out) (hA : Ptrs w b lb ads ns) :
    Calls Tryz.prog 59 #[.pointer (some ⟨b, 0, none⟩), .slice (some ⟨lb, 0, none⟩) ns.length cap] w fun e w' => Wr base b out (nums ns) e w' ∧ Kp base b w w' :=
  (numbers_any base b lb cap ads ns out w hn hL hP hA).mono fun e w' ⟨h1, h2⟩ => ⟨h1.wr (pNums_at _ _), h2⟩


end Go.Proofs.YtblnlfcfjbfhiaaGreat.W
