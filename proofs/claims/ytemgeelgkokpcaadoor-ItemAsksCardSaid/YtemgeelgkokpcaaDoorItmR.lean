/- The walks of item.broken, readList: bytes of items. -/
import Derived.Test.YtemgeelgkokpcaaDoorItmE
import Derived.Test.YtemgeelgkokpcaaDoorOctetRd
import Derived.Test.YtemgeelgkokpcaaDoorOctetRE
import Derived.Test.YtemgeelgkokpcaaDoorOctetRT
namespace Go.Proofs.YtemgeelgkokpcaaDoor
open Go.RowKit

theorem rok_num {w : World} {b : Nat} (n k : Nat) (h1 : 1 ≤ k) (h8 : k ≤ 8) (hn : n < 256 ^ k) (K : Int) (hK : (k : Int) = K) (L : List UInt8) (h : RdAt w b (str (be n k ++ L)) 0) (hr : L.length ≤ 1000000000) :
    Calls Tryd.prog 45 #[.pointer (some ⟨b, 0, none⟩), .int .i64 K] w fun e w' => e = .returned (.int .u64 n) ∧ RdAt w' b (str L) 0 ∧ w.grownBy w' (some b) := by
  subst hK
  have hq := rd_num (n := n) (k := (k : Int)) ⟨by omega, by omega, by rw [Int.toNat_natCast]; exact hn⟩ L
  rw [Int.toNat_natCast] at hq
  refine (rnum_any (k : Int) w (some ⟨b, 0, none⟩) (some ⟨str (be n k ++ L), 0⟩) ⟨b, rfl, h⟩ (fun s e => by cases e; show (str (be n k ++ L)).size ≤ maxLen; rw [str_size, List.length_append, be_length]; unfold maxLen; omega)).mono ?_
  rintro e w' ⟨rfl, hw, g⟩
  obtain ⟨b', e', hw⟩ := hw
  cases e'
  have e1 : ((Option.map (fun s : RSt => (s.num (k : Int)).1) (some ⟨str (be n k ++ L), 0⟩)).getD 0) = n := by
    show ((⟨str (be n k ++ L), 0⟩ : RSt).num (k : Int)).1 = n
    rw [hq]
  have hw2 : RdAt w' b ((⟨str (be n k ++ L), 0⟩ : RSt).num (k : Int)).2.rest ((⟨str (be n k ++ L), 0⟩ : RSt).num (k : Int)).2.err := hw
  rw [hq] at hw2
  exact ⟨by rw [e1], hw2, g⟩
theorem rok_text {w : World} {b : Nat} (s : ByteArray) (hs : s.size ≤ 4096) (L : List UInt8) (h : RdAt w b (str ((be s.size 2 ++ s.data.toList) ++ L)) 0) (hr : L.length ≤ 1000000000) :
    Calls Tryd.prog 47 #[.pointer (some ⟨b, 0, none⟩)] w fun e w' => e = .returned (.string s) ∧ RdAt w' b (str L) 0 ∧ w.grownBy w' (some b) := by
  have hq := rd_text hs L
  have hz : s.data.toList.length = s.size := by rw [Array.length_toList]; rfl
  refine (rtext_any w (some ⟨b, 0, none⟩) (some ⟨str ((be s.size 2 ++ s.data.toList) ++ L), 0⟩) ⟨b, rfl, h⟩ (fun x e => by cases e; show (str ((be s.size 2 ++ s.data.toList) ++ L)).size ≤ maxLen; rw [str_size, List.length_append, List.length_append, be_length, hz]; unfold maxLen; omega)).mono ?_
  rintro e w' ⟨rfl, hw, g⟩
  obtain ⟨b', e', hw⟩ := hw
  cases e'
  have e1 : ((Option.map (fun x : RSt => x.text.1) (some ⟨str ((be s.size 2 ++ s.data.toList) ++ L), 0⟩)).getD ByteArray.empty) = s := by
    show ((⟨str ((be s.size 2 ++ s.data.toList) ++ L), 0⟩ : RSt).text).1 = s
    rw [hq]
  have hw2 : RdAt w' b ((⟨str ((be s.size 2 ++ s.data.toList) ++ L), 0⟩ : RSt).text).2.rest ((⟨str ((be s.size 2 ++ s.data.toList) ++ L), 0⟩ : RSt).text).2.err := hw
  rw [hq] at hw2
  exact ⟨by rw [e1], hw2, g⟩
set_option maxRecDepth 100000 in
set_option maxHeartbeats 800000 in
theorem broken_ok (b : Nat) (L : List UInt8) (w : World) (h : RdAt w b (str L) 0) :
    Calls Tryd.prog 46 #[.pointer (some ⟨b, 0, none⟩)] w fun e w' => e = .returned (.int .i64 0) ∧ w = w' := by
  have HE := Lib.hid (end_any w (some ⟨b, 0, none⟩) (some ⟨str L, 0⟩) ⟨b, rfl, h⟩)
  have hd : ((some (⟨str L, 0⟩ : RSt)).map fun s => s.done).getD 1 = 0 ∨ ((some (⟨str L, 0⟩ : RSt)).map fun s => s.done).getD 1 = 2 := by
    show (⟨str L, 0⟩ : RSt).done = 0 ∨ (⟨str L, 0⟩ : RSt).done = 2
    unfold RSt.done
    split <;> simp
  obtain ⟨d, hdd⟩ : ∃ d, ((some (⟨str L, 0⟩ : RSt)).map fun s => s.done).getD 1 = d := ⟨_, rfl⟩
  rw [hdd] at HE hd
  clear hdd h
  rcases hd with rfl | rfl
  · go_enter Tryd.func46, Tryd.ntmps46
    go_wp2_with fail
    refine HE.out.mono ?_
    rintro e w1 ⟨rfl, rfl⟩
    go_wp2_with fail
    go_ret
    exact ⟨rfl, rfl⟩
  · go_enter Tryd.func46, Tryd.ntmps46
    go_wp2_with fail
    refine HE.out.mono ?_
    rintro e w1 ⟨rfl, rfl⟩
    go_wp2_with fail
    go_ret
    exact ⟨rfl, rfl⟩
theorem item_iface {w : World} {P : Nat → Prop} : ∀ {v : Value} {t : Tr}, ItemAt w P v t → ∃ ty u, v = .iface ty u
  | v, .num n, h => by rw [ItemAt] at h; exact ⟨_, _, h⟩
  | v, .text s, h => by rw [ItemAt] at h; exact ⟨_, _, h⟩
  | v, .list l, h => by
    rw [ItemAt] at h
    obtain ⟨b, a, c, h1, _⟩ := h
    exact ⟨_, _, h1⟩
theorem errTs_mem : ∀ {l : List Tr} {t : Tr}, errTs l = 0 → t ∈ l → errT t = 0
  | t :: r, x, h, hx => by
    rw [errTs] at h
    by_cases h0 : errT t = 0
    · rw [if_neg (by simp [h0])] at h
      rcases List.mem_cons.1 hx with rfl | q
      · exact h0
      · exact errTs_mem h q
    · rw [if_pos h0] at h
      exact absurd h h0
theorem encTs_drop {l : List Tr} {k : Nat} {t : Tr} (h : l[k]? = some t) : encTs (l.drop k) = encT t ++ encTs (l.drop (k + 1)) := by
  obtain ⟨hk, he⟩ := List.getElem?_eq_some_iff.1 h
  rw [List.drop_eq_getElem_cons hk, encTs, he]
theorem encTs_drop_len (l : List Tr) (k : Nat) : (encTs (l.drop k)).length ≤ (encTs l).length := by
  have h2 : encTs l = encTs (l.take k) ++ encTs (l.drop k) := by rw [← encTs_append, List.take_append_drop]
  rw [h2, List.length_append]
  omega
/-- what read does with the bytes of an item, for all items of so many nodes -/
def ReadOk (m : Nat) : Prop := ∀ (t : Tr), cntT t ≤ m → okT t → errT t = 0 → ∀ (d : Nat), 1 ≤ d → d + depT t ≤ 9 → ∀ (w : World) (b : Nat) (L : List UInt8), RdAt w b (str (encT t ++ L)) 0 → (encT t).length + L.length ≤ 1000000000 →
    Calls Tryd.prog 28 #[.pointer (some ⟨b, 0, none⟩), .int .i64 d] w fun e w' => ∃ v, e = .returned (.tuple #[v, .int .i64 0]) ∧ ItemAt w' (fun i => w.heap.size ≤ i) v t ∧ RdAt w' b (str L) 0 ∧ w.grownBy w' (some b)
/-- the items so far, in a row of the call's own -/
structure RL (w : World) (b : Nat) (l : List Tr) (k : Nat) (L : List UInt8) (lv : Value) (wr : World) : Prop where
  row : ∃ vs, wr.ownsRow w.heap.size 24 1 lv k vs ∧ AllAt wr (fun i => w.heap.size ≤ i ∧ lv.ownBlock ≠ some i) vs (l.take k)
  rd : RdAt wr b (str (encTs (l.drop k) ++ L)) 0
  gr : w.grownBy wr (some b)
  bl : b < w.heap.size
theorem RL.form {w : World} {b : Nat} {l : List Tr} {k : Nat} {L : List UInt8} {lv : Value} {wr : World} (h : RL w b l k L lv wr) : ∃ a c, lv = .slice a k c := by
  obtain ⟨vs, ho, _⟩ := h.row
  rcases own_formI ho with ⟨rfl, h0⟩ | ⟨g, cap, rfl⟩
  · exact ⟨none, 0, by rw [h0]⟩
  · exact ⟨_, _, rfl⟩
/-- one item more -/
theorem RL.push {w : World} {b : Nat} {l : List Tr} {k : Nat} {L : List UInt8} {lv : Value} {wr w3 w5 : World} {v : Value} {t : Tr} {vs : List Value} {g c : Nat} (h : RL w b l k L lv wr) (ht : l[k]? = some t)
    (hvs : wr.ownsRow w.heap.size 24 1 lv k vs) (hall : AllAt wr (fun i => w.heap.size ≤ i ∧ lv.ownBlock ≠ some i) vs (l.take k))
    (hit : ItemAt w3 (fun i => wr.heap.size ≤ i) v t) (hrd : RdAt w3 b (str (encTs (l.drop (k + 1)) ++ L)) 0) (g3 : wr.grownBy w3 (some b))
    (g5 : (w3.alloc (.cells #[v] 24)).grownBy w5 lv.ownBlock) (ho : w5.ownsRow w.heap.size 24 1 (.slice (some ⟨g, 0, none⟩) (k + 1) c) (k + 1) (vs ++ [v])) (hor : lv.ownBlock = some g ∨ g = (w3.alloc (.cells #[v] 24)).heap.size) :
    RL w b l (k + 1) L (.slice (some ⟨g, 0, none⟩) (k + 1) c) w5 := by
  have hlb : ∀ y, lv.ownBlock = some y → w.heap.size ≤ y ∧ y < wr.heap.size := fun y e => hvs.lt y e
  have hbl := h.bl
  have hs3 := g3.size
  have k35 : ∀ i o, lv.ownBlock ≠ some i → w3.heap[i]? = some o → w5.heap[i]? = some o := fun i o hne e => g5.heap ((World.grownBy_alloc w3 _ none).heap e (by simp)) hne
  have hgne : ∀ i, i < w3.heap.size → lv.ownBlock ≠ some i → (Value.slice (some ⟨g, 0, none⟩) (k + 1) c).ownBlock ≠ some i := fun i hi hne e => by
    have e1 : g = i := by simpa [Value.ownBlock] using e
    rcases hor with q | q
    · exact hne (by rw [q, e1])
    · rw [World.size_alloc] at q; omega
  refine ⟨⟨vs ++ [v], ho, ?_⟩, ?_, ?_, h.bl⟩
  · rw [List.take_add_one, ht, Option.toList_some]
    refine AllAt.push (AllAt.keep hall (fun i o p e => k35 i o p.2 (g3.heap e (fun q => by have := Option.some.inj q; have := p.1; omega))) (fun i p hi => ⟨p.1, hgne i (by omega) p.2⟩)) ?_
    refine ItemAt.keep (fun i o p e => k35 i o (fun q => by have := (hlb i q).2; omega) e) (fun i p hi => ⟨by have := h.gr.size; omega, hgne i hi (fun q => by have := (hlb i q).2; omega)⟩) v t hit
  · exact k35 b _ (fun q => by have := (hlb b q).1; omega) hrd
  · refine ⟨g5.os.trans (g3.os.trans h.gr.os), g5.tape.trans (g3.tape.trans h.gr.tape), g5.output.trans (g3.output.trans h.gr.output), by have h1 := g5.size; rw [World.size_alloc] at h1; have := h.gr.size; omega, fun i hi hne => ?_⟩
    have hi3 : i < w3.heap.size := by have := h.gr.size; omega
    rw [g5.block i (by rw [World.size_alloc]; omega) (fun e => by have := (hlb i e.symm).1; omega), Below.heap_alloc _ _ _ hi3, g3.block i (by have := h.gr.size; omega) hne, h.gr.block i hi hne]
end Go.Proofs.YtemgeelgkokpcaaDoor
