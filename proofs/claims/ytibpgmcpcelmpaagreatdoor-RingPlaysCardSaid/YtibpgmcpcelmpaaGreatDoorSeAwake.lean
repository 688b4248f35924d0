/-
  seal's awake: a text that is opened.
-/
import Derived.Test.YtibpgmcpcelmpaaGreatDoorSeRead
namespace Go.Proofs.YtibpgmcpcelmpaaGreatDoor
open Go.RowKit Pk
namespace Se
def k1 : List UInt8 := 1 :: List.replicate 31 0
def hello : List UInt8 := [104, 101, 108, 108, 111]
theorem k1_length : k1.length = 32 := rfl
theorem k1_enc : Sm.tag k1 encL = [219, 73, 184, 113, 4, 83, 16, 125, 76, 184, 37, 51, 40, 175, 135, 231, 44, 100, 231, 240, 171, 56, 141, 171, 91, 90, 243, 165, 6, 174, 132, 95] := by decide +kernel
theorem wake_stream : Ae.stream [219, 73, 184, 113, 4, 83, 16, 125, 76, 184, 37, 51, 40, 175, 135, 231, 44, 100, 231, 240, 171, 56, 141, 171, 91, 90, 243, 165, 6, 174, 132, 95] (nonce 2 3) hello = [239, 50, 28, 240, 124] := by decide +kernel
theorem wake_data : strm k1 2 3 hello = [239, 50, 28, 240, 124] := by
  unfold strm
  rw [k1_enc]
  exact wake_stream
theorem builtKey : Tryz.prog.built 74 [(0, .int .u8 1)] = some (Lib.byteCells k1).toArray := by kernel_rfl
theorem sealed_ok {k : List UInt8} {key : Int} {boot n : Nat} {about t : List UInt8} (hk : 0 ≤ key ∧ key ≤ 1048576) (hb : boot < 2 ^ 32) (hn : n < 2 ^ 64) (ht : t.length ≤ 8192) : (sealed k key boot n about t).Ok ∧ (sealed k key boot n about t).Right := by
  have hs : (sealed k key boot n about t).data.size = t.length := by
    show (strm k boot n t).toArray.size = _
    rw [List.size_toArray, strm_length]
  refine ⟨⟨?_, hb, hn, by omega, tagOf_length _ _ _⟩, ⟨hk, by omega⟩⟩
  show -9223372036854775808 ≤ key ∧ key ≤ 9223372036854775807
  omega
theorem tagOf_congr {k about : List UInt8} {x y : Env} (h1 : x.key = y.key) (h2 : x.boot = y.boot) (h3 : x.n = y.n) (h4 : x.data = y.data) : tagOf k x about = tagOf k y about := by
  unfold tagOf tagged head
  rw [h1, h2, h3, h4]
theorem sealed_tag (k : List UInt8) (key : Int) (boot n : Nat) (about t : List UInt8) : (sealed k key boot n about t).tag = tagOf k (sealed k key boot n about t) about := by
  have h : (sealed k key boot n about t).tag = tagOf k (bare k key boot n t) about := by unfold sealed; rfl
  rw [h]
  exact tagOf_congr rfl rfl rfl rfl
/-- What was sealed is opened. -/
theorem opened_sealed {k : List UInt8} {key : Int} {boot n : Nat} {about t : List UInt8} (hk : 0 ≤ key ∧ key ≤ 1048576) (hb : boot < 2 ^ 32) (hn : n < 2 ^ 64) (ht : t.length ≤ 8192) : opened k (sealed k key boot n about t) about = (t, 0) := by
  unfold opened
  rw [if_pos (sealed_ok hk hb hn ht).2]
  rw [if_pos (sealed_tag k key boot n about t)]
  have h2 : strm k boot n (sealed k key boot n about t).data.data.toList = t := by
    show strm k boot n (strm k boot n t).toArray.toList = t
    exact strm_back k boot n t
  exact Prod.ext h2 rfl
end Se

end Go.Proofs.YtibpgmcpcelmpaaGreatDoor
