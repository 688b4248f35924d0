/-
  seal's awake: a text that is opened.
-/
import Derived.Test.YtapogiihkbjppaaDoorSeRead
namespace Go.Proofs.YtapogiihkbjppaaDoor
open Go.RowKit Pk
namespace Se
def k1 : List UInt8 := 1 :: List.replicate 31 0
def hello : List UInt8 := [104, 101, 108, 108, 111]
theorem k1_length : k1.length = 32 := rfl
theorem k1_enc : Sm.tag k1 encL = [219, 73, 184, 113, 4, 83, 16, 125, 76, 184, 37, 51, 40, 175, 135, 231, 44, 100, 231, 240, 171, 56, 141, 171, 91, 90, 243, 165, 6, 174, 132, 95] := by decide +kernel
theorem wake_stream : Ae.stream [219, 73, 184, 113, 4, 83, 16, 125, 76, 184, 37, 51, 40, 175, 135, 231, 44, 100, 231, 240, 171, 56, 141, 171, 91, 90, 243, 165, 6, 174, 132, 95] (nonce 2 3) hello = [239, 50, 28, 240, 124] := by decide +kernel
theorem wake_data : strm k1 2 3 hello = [239, 50, 28, 240, 124] := by
  unfold strm
  rw [k1_enc]
  exact wake_stream
theorem builtKey : Tryd.prog.built 23 [(0, .int .u8 1)] = some (Lib.byteCells k1).toArray := by kernel_rfl
theorem sealed_ok {k : List UInt8} {key : Int} {boot n : Nat} {about t : List UInt8} (hk : 0 ≤ key ∧ key ≤ 1048576) (hb : boot < 2 ^ 32) (hn : n < 2 ^ 64) (ht : t.length ≤ 8192) : (sealed k key boot n about t).Ok ∧ (sealed k key boot n about t).Right := by
  have hs : (sealed k key boot n about t).data.size = t.length := by
    show (strm k boot n t).toArray.size = _
    rw [List.size_toArray, strm_length]
  refine ⟨⟨?_, hb, hn, by omega, tagOf_length _ _ _⟩, ⟨hk, by omega⟩⟩
  show -9223372036854775808 ≤ key ∧ key ≤ 9223372036854775807
  omega
theorem tagOf_congr {k about : List UInt8} {x y : Env} (h1 : x.key = y.key) (h2 : x.boot = y.boot) (h3 : x.n = y.n) (h4 : x.data = y.data) : tagOf k x about = tagOf k y about := by
  unfold tagOf tagged head
  rw [h1, h2, h3, h4]
theorem sealed_tag (k : List UInt8) (key : Int) (boot n : Nat) (about t : List UInt8) : (sealed k key boot n about t).tag = tagOf k (sealed k key boot n about t) about := by
  have h : (sealed k key boot n about t).tag = tagOf k (bare k key boot n t) about := by unfold sealed; rfl
  rw [h]
  exact tagOf_congr rfl rfl rfl rfl
/-- What was sealed is opened. -/
theorem opened_sealed {k : List UInt8} {key : Int} {boot n : Nat} {about t : List UInt8} (hk : 0 ≤ key ∧ key ≤ 1048576) (hb : boot < 2 ^ 32) (hn : n < 2 ^ 64) (ht : t.length ≤ 8192) : opened k (sealed k key boot n about t) about = (t, 0) := by
  unfold opened
  rw [if_pos (sealed_ok hk hb hn ht).2]
  rw [if_pos (sealed_tag k key boot n about t)]
  have h2 : strm k boot n (sealed k key boot n about t).data.data.toList = t := by
    show strm k boot n (strm k boot n t).toArray.toList = t
    exact strm_back k boot n t
  exact Prod.ext h2 rfl
end Se

set_option maxRecDepth 100000 in
set_option maxHeartbeats 2000000 in
theorem awake5_any {w : World} (hH : Sm.HAt w) (hK : Sm.KAt w) (hsz : 1 < w.heap.size) :
    Calls Tryd.prog 12 #[] w fun e w' => e = .returned (.bool true) ∧ Below w.heap.size w w' := by
  have hz1 := (zero_of_info Se.zeroEnv).1
  have hzs : Se.zero.cells.toArray.size = 36 := Se.cells_length _ (by rfl)
  obtain ⟨z0, hz0⟩ : ∃ z, z = Se.zero.cells.toArray := ⟨_, rfl⟩
  rw [← hz0] at hz1 hzs
  clear hz0
  have HH := Lib.hid hH
  have HK := Lib.hid hK
  obtain ⟨e, he⟩ : ∃ e, e = Se.sealed Se.k1 1 2 3 [97] Se.hello := ⟨_, rfl⟩
  have hel : e.cells.length = 36 := by rw [he]; exact Se.cells_length _ (Se.tagOf_length _ _ _)
  have heo : e.cells.toArray.all (·.oneCell') = true := Se.cells_one _
  obtain ⟨cx, hcx⟩ : ∃ c, c = e.cells := ⟨_, rfl⟩
  rw [← hcx] at hel heo
  have hxs : cx.toArray.size = 36 := by rw [List.size_toArray, hel]
  obtain ⟨ck, hck⟩ : ∃ c, c = (Lib.byteCells Se.k1).toArray := ⟨_, rfl⟩
  have CL : Hid (∀ wx : World, Sm.HAt wx → Sm.KAt wx → 1 < wx.heap.size → Calls Tryd.prog 8 #[.agg ck, .int .i64 1, .int .u32 2, .int .u64 3, .string ⟨#[97]⟩, .string ⟨#[104, 101, 108, 108, 111]⟩] wx fun e w' => e = .returned (.tuple #[.agg cx.toArray, .int .i64 0]) ∧ Below wx.heap.size wx w') := fun wx h1 h2 h3 => by
    rw [hck, hcx, he]
    exact close_any h1 h2 h3 Se.k1 Se.k1_length 1 (by decide) 2 3 (by decide) (by decide) ⟨#[97]⟩ ⟨#[104, 101, 108, 108, 111]⟩ (by decide) (by decide)
  have ook := Se.sealed_ok (k := Se.k1) (key := 1) (boot := 2) (n := 3) (about := [97]) (t := Se.hello) (by decide) (by decide) (by decide) (by decide)
  have OP : Hid (∀ wx : World, Sm.HAt wx → Sm.KAt wx → 1 < wx.heap.size → Calls Tryd.prog 9 #[.agg ck, .agg cx.toArray, .string ⟨#[97]⟩] wx fun e w' => e = .returned (.tuple #[.string ⟨#[104, 101, 108, 108, 111]⟩, .int .i64 0]) ∧ Below wx.heap.size wx w') := fun wx h1 h2 h3 => by
    have h := open_any h1 h2 h3 Se.k1 Se.k1_length (Se.sealed Se.k1 1 2 3 [97] Se.hello) ook.1 ⟨#[97]⟩ (by decide)
    rw [show (ByteArray.mk #[97]).data.toList = [97] from rfl, Se.opened_sealed (by decide) (by decide) (by decide) (by decide)] at h
    rw [hck, hcx, he]
    exact h
  have BK : Hid (Tryd.prog.built 23 [(0, .int .u8 1)] = some ck) := by
    show _ = _
    rw [hck]; exact Se.builtKey
  have CELL : Hid (∀ (wx : World) (b : Nat), wx.heap[b]? = some (.cells cx.toArray 28 (0, 0)) → wx.cell? ⟨b, 0, none⟩ = some (.int .i64 1) ∧ wx.cell? ⟨b, 1, none⟩ = some (.int .u32 2) ∧ wx.cell? ⟨b, 2, none⟩ = some (.int .u64 3) ∧ wx.cell? ⟨b, 3, none⟩ = some (.string ⟨#[239, 50, 28, 240, 124]⟩)) := fun wx b h => by
    rw [hcx] at h
    have hc := Se.EnvAt.cell (x := e) h
    rw [he] at hc
    have hd : (Se.sealed Se.k1 1 2 3 [97] Se.hello).data = ⟨#[239, 50, 28, 240, 124]⟩ := by
      show ByteArray.mk (Se.strm Se.k1 2 3 Se.hello).toArray = _
      rw [Se.wake_data]
    rw [hd] at hc
    exact hc
  have HCK := Lib.hid hck
  clear he hcx hck hH hK ook
  go_enter Tryd.func12, Tryd.ntmps12
  go_wp2_with (with_reducible refine wpList_build_eq rfl 23 _ rfl ck (by with_unfolding_all exact BK.out) ?_)
  refine (CL.out _ HH.out HK.out hsz).mono ?_
  rintro e w2 ⟨rfl, k2⟩
  have s2 := k2.size
  have p3 := heap_alloc_new w2 (.cells cx.toArray 28)
  have b3 : Below w.heap.size w (w2.alloc (.cells cx.toArray 28)) := k2.alloc k2.size _
  have s3 : (w2.alloc (.cells cx.toArray 28)).heap.size = w2.heap.size + 1 := by simp
  have hst : (storeCells ⟨w2.heap.size, 0, none⟩ cx).run Tryd.prog (w2.alloc (.cells z0 28)) = .ok () (w2.alloc (.cells cx.toArray 28)) :=
    run_storeCells_new (P := Tryd.prog) w2 28 z0 _ (Se.infoEnv hxs) (by rw [hxs]; exact hzs) heo
  go_upto_region 2 with (fail)
  generalize w2.alloc (.cells cx.toArray 28) = w3 at *
  obtain ⟨M, hM⟩ : ∃ M, M = w2.heap.size := ⟨_, rfl⟩
  rw [← hM] at p3 s3 s2 ⊢
  have P3 := Lib.hid p3
  have B3 := Lib.hid b3
  clear hst p3 b3 hM hz1 k2
  go_wp2_with (first | (with_reducible refine wpList_build_eq rfl 23 _ rfl ck (by with_unfolding_all exact BK.out) ?_) | (with_reducible refine wpList_load_row rfl 28 (.tmp 1) rfl M rfl 28 cx.toArray (0, 0) _ (by exact P3.out) Tryd.underlying28 rfl (Se.infoEnv hxs) ?_))
  refine (OP.out _ (HH.out.low B3.out (by omega)) (HK.out.low B3.out hsz) (by omega)).mono ?_
  rintro e w4 ⟨rfl, k4⟩
  have B4 := B3.out.trans (k4.mono (by omega))
  have e4 := (k4.block M (by omega)).trans P3.out
  obtain ⟨c0, c1, c2, c3⟩ := CELL.out _ _ e4
  clear e4 k4 P3 B3
  go_wp2_with fail
  go_ret
  exact ⟨rfl, B4⟩
end Go.Proofs.YtapogiihkbjppaaDoor
