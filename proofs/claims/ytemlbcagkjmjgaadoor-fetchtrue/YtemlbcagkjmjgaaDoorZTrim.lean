/- strings.Trim at the text of a way, of the library's contracts, at this program. -/
import Derived.Test.YtemlbcagkjmjgaaDoorZPure
import Derived.Shelf.Strings.SlTrimAscii
namespace Go.Proofs.YtemlbcagkjmjgaaDoor
open Go.RowKit Go.Shelf
set_option linter.unusedVariables false
set_option linter.unusedSimpArgs false

def lays160_ren : Go.Shelf.Ren := ⟨fun | 160 => 25 | 232 => 46 | 231 => 45 | 227 => 47 | 234 => 49 | 233 => 48 | 236 => 51 | 235 => 50 | 228 => 67 | 271 => 70 | 151 => 69 | 197 => 68 | 120 => 76 | 152 => 75 | 260 => 74 | 137 => 77 | 119 => 78 | 224 => 79 | 225 => 80 | 217 => 81 | 266 => 82 | n => n, fun | 9 => 9 | 4 => 4 | 3 => 3 | 5 => 5 | 117 => 105 | 116 => 104 | 0 => 0 | 124 => 108 | 21 => 21 | 105 => 125 | 46 => 120 | 119 => 130 | 139 => 133 | 138 => 132 | n => n, fun | 3 => 0 | 4 => 1 | n => n⟩
theorem lays160 : Go.Proofs.Lays.n160 Tryd.prog lays160_ren := {
  mixed := by kernel_rfl
  f119 := Tryd.func78.trans (congrArg some (by kernel_rfl))
  f120 := Tryd.func76.trans (congrArg some (by kernel_rfl))
  f137 := Tryd.func77.trans (congrArg some (by kernel_rfl))
  f151 := Tryd.func69.trans (congrArg some (by kernel_rfl))
  f152 := Tryd.func75.trans (congrArg some (by kernel_rfl))
  f160 := Tryd.func25.trans (congrArg some (by kernel_rfl))
  f197 := Tryd.func68.trans (congrArg some (by kernel_rfl))
  f217 := Tryd.func81.trans (congrArg some (by kernel_rfl))
  f224 := Tryd.func79.trans (congrArg some (by kernel_rfl))
  f225 := Tryd.func80.trans (congrArg some (by kernel_rfl))
  f227 := Tryd.func47.trans (congrArg some (by kernel_rfl))
  f228 := Tryd.func67.trans (congrArg some (by kernel_rfl))
  f231 := Tryd.func45.trans (congrArg some (by kernel_rfl))
  f232 := Tryd.func46.trans (congrArg some (by kernel_rfl))
  f233 := Tryd.func48.trans (congrArg some (by kernel_rfl))
  f234 := Tryd.func49.trans (congrArg some (by kernel_rfl))
  f235 := Tryd.func50.trans (congrArg some (by kernel_rfl))
  f236 := Tryd.func51.trans (congrArg some (by kernel_rfl))
  f260 := Tryd.func74.trans (congrArg some (by kernel_rfl))
  f266 := Tryd.func82.trans (congrArg some (by kernel_rfl))
  f271 := Tryd.func70.trans (congrArg some (by kernel_rfl))
  t0 := Tryd.underlying0
  a0 := Tryd.isAgg0
  z0 := Tryd.sizeOf0
  v0 := Tryd.zeroValue0
  t3 := Tryd.underlying3
  a3 := Tryd.isAgg3
  z3 := Tryd.sizeOf3
  v3 := Tryd.zeroValue3
  t4 := Tryd.underlying4
  a4 := Tryd.isAgg4
  z4 := Tryd.sizeOf4
  v4 := Tryd.zeroValue4
  t5 := Tryd.underlying5
  a5 := Tryd.isAgg5
  z5 := Tryd.sizeOf5
  v5 := Tryd.zeroValue5
  t9 := Tryd.underlying9
  a9 := Tryd.isAgg9
  z9 := Tryd.sizeOf9
  v9 := Tryd.zeroValue9
  t21 := Tryd.underlying21
  a21 := Tryd.isAgg21
  z21 := Tryd.sizeOf21
  v21 := Tryd.zeroValue21
  t46 := Tryd.underlying120
  a46 := Tryd.isAgg120
  z46 := Tryd.sizeOf120
  v46 := Tryd.zeroValue120
  t105 := Tryd.underlying125
  a105 := Tryd.isAgg125
  z105 := Tryd.sizeOf125
  v105 := Tryd.zeroValue125
  t116 := Tryd.underlying104
  a116 := Tryd.isAgg104
  z116 := Tryd.sizeOf104
  t117 := Tryd.underlying105
  a117 := Tryd.isAgg105
  z117 := Tryd.sizeOf105
  v117 := Tryd.zeroValue105
  t119 := Tryd.underlying130
  a119 := Tryd.isAgg130
  z119 := Tryd.sizeOf130
  t124 := Tryd.underlying108
  a124 := Tryd.isAgg108
  z124 := Tryd.sizeOf108
  v124 := Tryd.zeroValue108
  t138 := Tryd.underlying132
  a138 := Tryd.isAgg132
  z138 := Tryd.sizeOf132
  v138 := Tryd.zeroValue132
  t139 := Tryd.underlying133
  a139 := Tryd.isAgg133
  z139 := Tryd.sizeOf133
  v139 := Tryd.zeroValue133
  g3 := by kernel_rfl
  g4 := by kernel_rfl }

/-- Is it a way? -/
def isWay (s : Key) : Bool := s.all fun c => c == 48 || c == 49
theorem trim_way (s : Key) : (Lib.trimS s [48, 49] == []) = isWay s := by
  have hc : ∀ c : UInt8, [48, 49].contains c = (c == 48 || c == 49) := fun c => by simp only [List.contains, List.elem]; cases (c == 48) <;> cases (c == 49) <;> rfl
  have hl : ∀ l : Key, l.dropWhile (fun c => [48, 49].contains c) = [] ↔ isWay l = true := by
    intro l
    unfold isWay
    induction l with
    | nil => simp
    | cons c r ih =>
      rw [List.dropWhile_cons, List.all_cons]
      by_cases h : (c == 48 || c == 49) = true
      · rw [if_pos (by rw [hc]; exact h), h, Bool.true_and]; exact ih
      · have h' : (c == 48 || c == 49) = false := by simpa using h
        rw [if_neg (by rw [hc, h']; simp), h']
        simp
  have hd : ∀ l : Key, isWay (l.dropWhile (fun c => [48, 49].contains c)) = true → isWay l = true := by
    intro l
    induction l with
    | nil => intro h; exact h
    | cons c r ih =>
      rw [List.dropWhile_cons]
      split
      · rename_i h
        intro h2
        have h3 := ih h2
        rw [hc] at h
        unfold isWay at h3 ⊢
        rw [List.all_cons, h, h3]; rfl
      · intro h2; exact h2
  have hr : ∀ l : Key, isWay l.reverse = isWay l := fun l => by unfold isWay; exact List.all_reverse
  rw [Bool.eq_iff_iff, beq_iff_eq]
  unfold Lib.trimS Lib.trimLeftS Lib.trimRightS
  rw [hl, hr]
  constructor
  · intro h; rw [← hr]; exact hd _ h
  · intro h
    rw [(hl s.reverse).2 (by rw [hr]; exact h)]
    rfl
theorem trim_any (s : Key) (w : World) (hs : s.length ≤ maxLen) : Calls Tryd.prog 25 #[.string (str s), .string ⟨#[48, 49]⟩] w fun e w' => e = .returned (.string (str (Lib.trimS s [48, 49]))) ∧ Below w.heap.size w w' := by
  have h := Any.strings_Trim_laid lays160 (by kernel_rfl) (str s) ⟨#[48, 49]⟩ w (by rw [str_size]; unfold maxLen at hs; omega) (by decide) (ascii_of_all (by decide))
  exact h
end Go.Proofs.YtemlbcagkjmjgaaDoor
