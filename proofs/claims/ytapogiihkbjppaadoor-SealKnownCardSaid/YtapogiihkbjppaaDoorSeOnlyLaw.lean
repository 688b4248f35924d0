/-
  SealOnly: what bytes are read as is right and has just these bytes; what has bytes is read from them.
-/
import Derived.Test.YtapogiihkbjppaaDoorSeEq
import Derived.Deep.CutRange
namespace Go.Proofs.YtapogiihkbjppaaDoor
open Go.RowKit Pk
namespace Se
theorem bytes_array (b : ByteArray) : (⟨b.data.toList.toArray⟩ : ByteArray) = b := by
  obtain ⟨a⟩ := b
  simp
theorem read_fst (s : ByteArray) : (read s).1 = if fault s = 0 then got s else zero := by simp only [read]
theorem read_snd (s : ByteArray) : (read s).2 = fault s := by simp only [read]
theorem read_tag (s : ByteArray) : (read s).1.tag.length = 32 := by
  rw [read_fst]
  by_cases h : fault s = 0
  · rw [if_pos h]; exact (got_ok s).tag
  · rw [if_neg h]; rfl
end Se

end Go.Proofs.YtapogiihkbjppaaDoor
