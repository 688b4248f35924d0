/-
  The wake that each statement on paths asks is met.
-/
import Derived.Test.YtehkbffbehlpnaaPaShips
namespace Go.Proofs.Ytehkbffbehlpnaa
open Go.RowKit
namespace Pa
def tApp : ByteArray := ⟨#[97, 112, 112]⟩
def tOps : ByteArray := ⟨#[111, 112, 115]⟩
def tDb : ByteArray := ⟨#[100, 98]⟩
def tPath : ByteArray := ⟨#[97, 112, 112, 47, 100, 98]⟩
/-- The chapter's mounts. -/
def twoL : List Mo := [⟨tApp, true⟩, ⟨tOps, false⟩]
theorem wake_cut : cutV tPath.data.toList = .tuple #[.string tApp, .string tDb, .bool true] := by kernel_rfl
theorem wake_join : join tApp tDb = tPath := by
  have h : both tApp tDb = true := by kernel_rfl
  unfold join
  rw [h, if_pos rfl]
  apply ByteArray.ext
  apply Array.ext'
  simp [tApp, tDb, tPath]
theorem wake_both : both tApp tDb = true := by kernel_rfl
theorem same_no {a b : ByteArray} (h : ¬ a.data.toList = b.data.toList) : same a b = false := by
  rw [Bool.eq_false_iff]
  intro e
  rw [same_iff] at e
  exact h (by rw [e])
theorem wake_app : ships twoL tPath.data.toList = true := by
  have h1 : ok tPath.data.toList = true := by kernel_rfl
  have h2 : nameOf tPath.data.toList = tApp := by kernel_rfl
  have h3 : first tApp twoL = some ⟨tApp, true⟩ := by unfold twoL; rw [first, same_iff.2 rfl, if_pos rfl]
  unfold ships
  rw [of_some h1 (by rw [h2]; exact h3)]
  rfl
theorem wake_ops : ships twoL [111, 112, 115, 47, 107] = false := by
  have h1 : ok [111, 112, 115, 47, 107] = true := by kernel_rfl
  have h2 : nameOf [111, 112, 115, 47, 107] = tOps := by kernel_rfl
  have h3 : first tOps twoL = some ⟨tOps, false⟩ := by
    unfold twoL
    rw [first, same_no (by decide), first, same_iff.2 rfl]
    rfl
  unfold ships
  rw [of_some h1 (by rw [h2]; exact h3)]
  rfl
end Pa
end Go.Proofs.Ytehkbffbehlpnaa
