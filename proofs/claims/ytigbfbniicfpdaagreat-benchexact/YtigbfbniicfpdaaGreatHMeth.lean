/- The heap of seats: its methods through the interface. -/
import Derived.Test.YtigbfbniicfpdaaGreatBFits
namespace Go.Proofs.YtigbfbniicfpdaaGreat
open Go.RowKit
set_option linter.unusedVariables false
set_option linter.unusedSimpArgs false

theorem m_push (p : Value) (w : World) : (method 244 35 p "Push").run Tryz.prog w = .ok (117, p) w := by kernel_rfl
theorem m_pop (p : Value) (w : World) : (method 244 35 p "Pop").run Tryz.prog w = .ok (116, p) w := by kernel_rfl

set_option maxRecDepth 8000 in
theorem m_len (hb : Nat) (v : Value) (w : World) (h : w.cell? ⟨hb, 0, none⟩ = some v) : (method 244 35 (.pointer (some ⟨hb, 0, none⟩)) "Len").run Tryz.prog w = .ok (40, v) w := by
  have hi : ∀ w : World, (typeInfo 35).run Tryz.prog w = .ok ((Tryz.prog.info? 35).getD default) w := fun _ => by kernel_rfl
  have hs : (((Tryz.prog.info? 35).getD default).methods.find? (fun m => m.name == "Len")).isSome = true := by kernel_rfl
  obtain ⟨M, hM, hp, he, hf⟩ : ∃ M, ((Tryz.prog.info? 35).getD default).methods.find? (fun m => m.name == "Len") = some M ∧ M.path.toList = [] ∧ M.path.isEmpty = true ∧ M.func = some (40, false) := ⟨Option.get _ hs, (Option.some_get hs).symm, by kernel_rfl, by kernel_rfl, by kernel_rfl⟩
  have hl : (loadVar 36 ⟨hb, 0, none⟩).run Tryz.prog w = .ok v w := by simp [loadVar, go_sem, h]
  have hu : ∀ w : World, (underlying 35).run Tryz.prog w = .ok (.pointer 36) w := fun _ => by kernel_rfl
  have hn : ∀ w : World, (Builtin.ssaWrapNilChk_ #[35] 35 #[.pointer (some ⟨hb, 0, none⟩), strVal "", strVal (("Len".splitOn ".").getLastD "Len")]).run Tryz.prog w = .ok (.pointer (some ⟨hb, 0, none⟩)) w := fun _ => by kernel_rfl
  have ha : ∀ w : World, (asAddr (.pointer (some ⟨hb, 0, none⟩))).run Tryz.prog w = .ok ⟨hb, 0, none⟩ w := fun _ => by kernel_rfl
  unfold method
  simp only [Sem.run_bind, hi, Result.andThen_ok, hM]
  simp only [hp, hf, he, follow, Sem.run_bind, Sem.run_pure, Result.andThen_ok, receiverAt, hu, Place.get, if_true]
  simp only [hn, ha, hl, Result.andThen_ok]

set_option maxRecDepth 8000 in
theorem m_less (hb : Nat) (v : Value) (w : World) (h : w.cell? ⟨hb, 0, none⟩ = some v) : (method 244 35 (.pointer (some ⟨hb, 0, none⟩)) "Less").run Tryz.prog w = .ok (115, v) w := by
  have hi : ∀ w : World, (typeInfo 35).run Tryz.prog w = .ok ((Tryz.prog.info? 35).getD default) w := fun _ => by kernel_rfl
  have hs : (((Tryz.prog.info? 35).getD default).methods.find? (fun m => m.name == "Less")).isSome = true := by kernel_rfl
  obtain ⟨M, hM, hp, he, hf⟩ : ∃ M, ((Tryz.prog.info? 35).getD default).methods.find? (fun m => m.name == "Less") = some M ∧ M.path.toList = [] ∧ M.path.isEmpty = true ∧ M.func = some (115, false) := ⟨Option.get _ hs, (Option.some_get hs).symm, by kernel_rfl, by kernel_rfl, by kernel_rfl⟩
  have hl : (loadVar 36 ⟨hb, 0, none⟩).run Tryz.prog w = .ok v w := by simp [loadVar, go_sem, h]
  have hu : ∀ w : World, (underlying 35).run Tryz.prog w = .ok (.pointer 36) w := fun _ => by kernel_rfl
  have hn : ∀ w : World, (Builtin.ssaWrapNilChk_ #[35] 35 #[.pointer (some ⟨hb, 0, none⟩), strVal "", strVal (("Less".splitOn ".").getLastD "Less")]).run Tryz.prog w = .ok (.pointer (some ⟨hb, 0, none⟩)) w := fun _ => by kernel_rfl
  have ha : ∀ w : World, (asAddr (.pointer (some ⟨hb, 0, none⟩))).run Tryz.prog w = .ok ⟨hb, 0, none⟩ w := fun _ => by kernel_rfl
  unfold method
  simp only [Sem.run_bind, hi, Result.andThen_ok, hM]
  simp only [hp, hf, he, follow, Sem.run_bind, Sem.run_pure, Result.andThen_ok, receiverAt, hu, Place.get, if_true]
  simp only [hn, ha, hl, Result.andThen_ok]

set_option maxRecDepth 8000 in
theorem m_swap (hb : Nat) (v : Value) (w : World) (h : w.cell? ⟨hb, 0, none⟩ = some v) : (method 244 35 (.pointer (some ⟨hb, 0, none⟩)) "Swap").run Tryz.prog w = .ok (118, v) w := by
  have hi : ∀ w : World, (typeInfo 35).run Tryz.prog w = .ok ((Tryz.prog.info? 35).getD default) w := fun _ => by kernel_rfl
  have hs : (((Tryz.prog.info? 35).getD default).methods.find? (fun m => m.name == "Swap")).isSome = true := by kernel_rfl
  obtain ⟨M, hM, hp, he, hf⟩ : ∃ M, ((Tryz.prog.info? 35).getD default).methods.find? (fun m => m.name == "Swap") = some M ∧ M.path.toList = [] ∧ M.path.isEmpty = true ∧ M.func = some (118, false) := ⟨Option.get _ hs, (Option.some_get hs).symm, by kernel_rfl, by kernel_rfl, by kernel_rfl⟩
  have hl : (loadVar 36 ⟨hb, 0, none⟩).run Tryz.prog w = .ok v w := by simp [loadVar, go_sem, h]
  have hu : ∀ w : World, (underlying 35).run Tryz.prog w = .ok (.pointer 36) w := fun _ => by kernel_rfl
  have hn : ∀ w : World, (Builtin.ssaWrapNilChk_ #[35] 35 #[.pointer (some ⟨hb, 0, none⟩), strVal "", strVal (("Swap".splitOn ".").getLastD "Swap")]).run Tryz.prog w = .ok (.pointer (some ⟨hb, 0, none⟩)) w := fun _ => by kernel_rfl
  have ha : ∀ w : World, (asAddr (.pointer (some ⟨hb, 0, none⟩))).run Tryz.prog w = .ok ⟨hb, 0, none⟩ w := fun _ => by kernel_rfl
  unfold method
  simp only [Sem.run_bind, hi, Result.andThen_ok, hM]
  simp only [hp, hf, he, follow, Sem.run_bind, Sem.run_pure, Result.andThen_ok, receiverAt, hu, Place.get, if_true]
  simp only [hn, ha, hl, Result.andThen_ok]
end Go.Proofs.YtigbfbniicfpdaaGreat
