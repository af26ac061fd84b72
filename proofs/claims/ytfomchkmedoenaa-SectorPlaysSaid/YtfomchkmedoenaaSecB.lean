/- The walks of On, Start, New; what burns while there is a fuse. -/
import Derived.Test.YtfomchkmedoenaaSecA
import Derived.OwnWalk
namespace Go.Proofs.Ytfomchkmedoenaa
open Go.RowKit

/-! ### New -/
theorem infoContent : (Try.prog.info? 55).map (fun i => (i.zero, i.size, i.bytes)) = some (some (.agg (bytesV (zeros 64)).toArray), 64, 64) := by kernel_rfl
theorem infoWriting : (Try.prog.info? 57).map (fun i => (i.zero, i.size, i.bytes)) = some (some (.agg (wcells (0, zeros 64)).toArray), 65, 72) := by kernel_rfl
theorem zeros_at (m j : Nat) (h : j < m) : (bytesV (zeros m)).toArray[j]! = .int .u8 0 := by
  have hl : j < (bytesV (zeros m)).toArray.size := by simpa [bytesV, zeros] using h
  rw [getElem!_pos _ j hl]
  simp [bytesV, zeros]
theorem made_zeros (m n : Nat) (hm : 0 < m) : (madeCells (bytesV (zeros m)).toArray (n * m)).toList = bytesV (zeros (n * m)) := by
  have hsz : (bytesV (zeros m)).toArray.size = m := by simp [bytesV, zeros]
  apply List.ext_getElem
  · simp [madeCells, bytesV, zeros]
  · intro i h1 h2
    have hi : i < n * m := by simpa [madeCells] using h1
    rw [show (bytesV (zeros (n * m)))[i] = .int .u8 0 from by simp [bytesV, zeros]]
    simp only [madeCells, hsz]
    rw [Array.getElem_toList, Array.getElem_map, Array.getElem_range]
    exact zeros_at m _ (Nat.mod_lt _ hm)
theorem sflat_zeros (n : Nat) : sflat (List.replicate n (zeros 64)) = zeros (n * 64) := by
  induction n with
  | zero => rfl
  | succ n ih =>
    show zeros 64 ++ sflat (List.replicate n (zeros 64)) = _
    rw [ih]
    simp only [zeros, List.replicate_append_replicate]
    congr 1
    omega
theorem made_secs (n : Nat) : (madeCells (bytesV (zeros 64)).toArray (n * 64)).toList = bytesV (sflat (List.replicate n (zeros 64))) := by
  rw [sflat_zeros]
  exact made_zeros 64 n (by decide)

theorem own_base0 {w : World} {B n size : Nat} {t : TypeId} {v : Value} {xs : List Value} (h : w.ownsRow B t size v n xs) : w.ownsRow 0 t size v n xs := by
  refine ⟨h.1, ?_⟩
  rcases h.2 with h' | ⟨g, cap, cur, a, b, r⟩
  · exact .inl h'
  · exact .inr ⟨g, cap, cur, a, Nat.zero_le _, r⟩
def newD (n : Nat) : DiskS := ⟨List.replicate n (zeros 64), [], true, -1, []⟩
theorem secs_new (n : Nat) : Secs (List.replicate n (zeros 64)) := by
  intro s hs
  rw [(List.mem_replicate.1 hs).2]
  rfl
set_option maxHeartbeats 400000 in
theorem new_ok (n : Nat) (h4 : 4 ≤ n) (hn : n ≤ 1024) (w : World) :
    Calls Try.prog 5 #[.int .i64 n] w fun e w' => ∃ b, e = .returned (.tuple #[.pointer (some ⟨b, 0, none⟩), .int .i64 0]) ∧ DiskAt (madeIn w w') w' b (newD n) ∧ w.grownBy w' none := by
  obtain ⟨i0, hti, hz0, hz1, hz2⟩ := info_parts infoContent
  have b1 : ¬ (n : Int) < 4 := by omega
  have b2 : ¬ (1024 : Int) < n := by omega
  go_enter Try.func5, Try.ntmps5
  go_wp2_with (at_make; refine wpList_make_full _ rfl _ _ 46 rfl w.heap.size 55 i0 _ 64 Try.underlying46 hti hz0 hz1 _ _ _ _ n rfl rfl rfl rfl ?c1 ?c2 ?c3 ?_)
  case c1 => omega
  case c2 => unfold maxLen; omega
  intro w2 hown hg
  rw [made_secs n] at hown
  have hgl : w.heap.size < w2.heap.size := (hown.lt w.heap.size rfl).2
  have HO := Lib.hid hown
  have HG := Lib.hid hg
  clear hown hg
  go_wp2_with fail
  go_ret2
  refine ⟨w2.heap.size, rfl, ⟨_, _, _, ⟨heap_alloc_at w2 _ _ rfl, ?_, World.ownsRow_nil _ _ _ _, World.ownsRow_nil _ _ _ _, secs_new n, fun x hx => by simp [newD] at hx, ?_, by simp [Value.ownBlock], by simp [Value.ownBlock], by simp [Value.ownBlock], by simp [Value.ownBlock], by simp [Value.ownBlock]⟩, ?_, ?_, by simp [Value.ownBlock], by simp [Value.ownBlock]⟩, grownBy_alloc' HG.out _⟩
  · rw [show (newD n).last.length = n from by simp [newD]]
    exact (own_base0 HO.out).alloc _
  · simp only [Value.ownBlock, ne_eq, Option.some.injEq]
    omega
  · exact ⟨by omega, by simp⟩
  · intro g e
    simp only [Value.ownBlock, Option.some.injEq] at e
    subst e
    exact ⟨Nat.le_refl _, by simp; omega⟩

/-! ### A writing's noughts -/
def wZ : Array Value := (wcells (0, zeros 64)).toArray
theorem wZ_size : wZ.size = 65 := by kernel_rfl
theorem wZ_ne : ¬ wZ = #[] := fun e => by have := wZ_size; rw [e] at this; cases this
theorem zero_writing (w : World) : (zeroValue 57).run Try.prog w = .ok (.agg wZ) w := by
  obtain ⟨i, hi, hz⟩ := Option.map_eq_some_iff.1 (show (Try.prog.info? 57).map (·.zero) = some (some (.agg wZ)) by kernel_rfl)
  simp [zeroValue, typeInfo, hi, hz]
end Go.Proofs.Ytfomchkmedoenaa
