/- What the listed library variables give: the two sentinels of strconv hold some error each; the door's own heap meets the list. -/
import Derived.Test.YtofgnfnngljilaaDoorLives
import Derived.ProofKit
import Derived.LaidMore
import Derived.OpenShut
import Derived.Stop.Joined
import Derived.Stop.LaidErr
namespace Go.Proofs.YtofgnfnngljilaaDoor
open Go.ChangeShapes Go.WideShapes Go.ChangeAt Go.RowKit

/-- The list of the rows. -/
noncomputable def laidL : List (String × DataW Unit) := Rows.needlesAtRow.laid

theorem door_met (os : Os) (args : Array Value) : laidMetH Tryd.prog laidL ((World.doorLaid Tryd.prog 62 os).forCall (fun _ _ => 0) ⟨#[], args, []⟩).memory :=
  laidMetH_of_parts3 (fuel := 8) (laidMet_of_run' 8 (by kernel_rfl) (by kernel_rfl)) (by kernel_rfl) (by kernel_rfl)

theorem gESType : (Tryd.prog.globals[0]?).map (·.type) = some 47 := by kernel_rfl
theorem gERType : (Tryd.prog.globals[1]?).map (·.type) = some 47 := by kernel_rfl
theorem cellsES : Tryd.prog.cellsOf 82 = 1 := by kernel_rfl
theorem cellsStr : Tryd.prog.cellsOf 9 = 1 := by kernel_rfl
theorem star : "*" ++ "errors.errorString" = "*errors.errorString" := by decide
theorem rowES (u : TypeId) (h : Tryd.prog.typeName? 3 u = some "*errors.errorString") : u = 80 :=
  typeName_ptr_named (nm := "errors.errorString") (by rw [star]; kernel_rfl) (by kernel_rfl) (by decide) u (by rw [star]; exact h)

theorem vars_of {W : World} (h : laidMetH Tryd.prog laidL W) : Vars W := by
  rw [MakeChecks.laidMetH_plain _ _ _ (by kernel_rfl)] at h
  have h1 : laidMet Tryd.prog (("strconv.ErrRange", Rows.laid_strconv_ErrRange) :: ("strconv.ErrSyntax", Rows.laid_strconv_ErrSyntax) :: []) W := laidMet.tail (laidMet.tail (laidMet.tail h))
  obtain ⟨a0, _, hv0, -, -, -⟩ := laid_sentinel h1 gER gERType Tryd.underlying47 rowES Tryd.underlying80 Tryd.underlying82 rfl rfl Tryd.underlying9 cellsES cellsStr
  obtain ⟨a1, _, hv1, -, -, -⟩ := laid_sentinel h1.tail gES gESType Tryd.underlying47 rowES Tryd.underlying80 Tryd.underlying82 rfl rfl Tryd.underlying9 cellsES cellsStr
  exact ⟨⟨_, _, hv1⟩, ⟨_, _, hv0⟩⟩
end Go.Proofs.YtofgnfnngljilaaDoor
