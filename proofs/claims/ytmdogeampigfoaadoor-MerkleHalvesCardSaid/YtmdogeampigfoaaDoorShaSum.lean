/- The walks of newHash and hash.sum. -/
import Derived.Test.YtmdogeampigfoaaDoorShaWrite
namespace Go.Proofs.YtmdogeampigfoaaDoor
open Go.RowKit
attribute [local irreducible] sched

/-- the starting state in memory -/
def StartAt (w : World) : Prop := w.rangeAt 0 0 (u32s start.list)
theorem StartAt.kept {w w' : World} {row : Option Nat} (h : StartAt w) (hg : w.grownBy w' row) (hr : row ≠ some 0) : StartAt w' := fun j v hv => by
  have h0 := h j v hv
  have hl : 0 < w.heap.size := World.block_lt_of_cell? w _ h0
  have := hg.block 0 hl (fun e => hr e.symm)
  rw [← h0]
  unfold World.cell?
  simp only [this]

/-- the zero hash's cells (where the seat's loader names none) -/
def hashZ : Array Value := (u32s (List.replicate 8 0) ++ (u8s (List.replicate 64 0) ++ [Value.int .u64 0])).toArray
theorem hashZ_size : hashZ.size = 73 := by kernel_rfl
theorem hashZ_ne : ¬ hashZ = #[] := fun e => by have := hashZ_size; rw [e] at this; cases this
theorem zero_hash (w : World) : (zeroValue 101).run Tryd.prog w = .ok (.agg hashZ) w := by
  obtain ⟨i, hi, hz⟩ := Option.map_eq_some_iff.1 (show (Tryd.prog.info? 101).map (·.zero) = some (some (.agg hashZ)) by kernel_rfl)
  simp [zeroValue, typeInfo, hi, hz]

set_option maxRecDepth 100000 in
set_option maxHeartbeats 800000 in
theorem newHash_any (w : World) (hs : StartAt w) (hr : RootsAt w) :
    Calls Tryd.prog 40 #[] w fun e w' => e = .returned (.pointer (some ⟨w.heap.size, 0, none⟩)) ∧ Took w' w.heap.size [] ∧ w.grownBy w' none := by
  have HS := Lib.hid hs
  have HR := Lib.hid hr
  clear hs hr
  have hz1 := hashZ_size
  have hz2 := hashZ_ne
  have hz3 := zero_hash
  go_enter Tryd.func40, Tryd.ntmps40
  go_wp2_with (refine wpList_load_mid (by rfl) 98 (.global 0) (by rfl) 0 0 (by rfl) (u32s start.list) (.array 8 85) (by exact HS.out) Tryd.underlying98 (by rfl) (by kernel_rfl) ?_)
  go_ret
  first
    | (have hc : List.foldl (fun (cs : Array Value) x => cs.setIfInBounds x.snd x.fst) hashZ (u32s start.list).zipIdx = (u32s start.list ++ (u8s (List.replicate 64 0) ++ [Value.int .u64 (([] : List UInt8).length : Nat)])).toArray := by kernel_rfl
       rw [hc])
    | (have hc : List.foldl (fun (cs : Array Value) x => cs.setIfInBounds x.snd x.fst) Tryd.zeroCells101 (u32s start.list).zipIdx = (u32s start.list ++ (u8s (List.replicate 64 0) ++ [Value.int .u64 (([] : List UInt8).length : Nat)])).toArray := by kernel_rfl
       rw [hc])
  have hg : w.grownBy (w.alloc (.cells (u32s start.list ++ (u8s (List.replicate 64 0) ++ [Value.int .u64 (([] : List UInt8).length : Nat)])).toArray 101)) none := World.grownBy_alloc _ _ _
  refine ⟨rfl, ⟨World.block_lt_of_cell? w _ (HR.out 0 (by decide)), HR.out.kept hg (by simp), start, List.replicate 64 0, Good.start, by simp, ?_⟩, hg⟩
  exact heap_alloc_at _ _ _ rfl

theorem St.bytes_length (s : St) : s.bytes.length = 32 := by simp [St.bytes, St.list, be_length]
/-- the digest's bytes so far -/
def bytesZ (s : St) (k : Nat) : List UInt8 := s.bytes.take k ++ List.replicate (32 - k) 0
theorem bytesZ_length (s : St) (k : Nat) (h : k ≤ 32) : (bytesZ s k).length = 32 := by simp [bytesZ, St.bytes_length]; omega
theorem be4_at (x j : Nat) (h : j < 4) : (be x 4)[j]? = some (UInt8.ofNat (x / 256 ^ (3 - j) % 256)) := by
  have h1 := be_take x 4 j h
  have hl : j < (be x 4).length := by rw [be_length]; exact h
  rw [List.take_succ_eq_append_getElem hl] at h1
  have h2 := List.append_cancel_left h1
  rw [List.getElem?_eq_getElem hl]
  simpa using h2
theorem bytes_at (s : St) (i j : Nat) (hi : i < 8) (hj : j < 4) : s.bytes[4 * i + j]? = some (UInt8.ofNat (s.list.getD i 0 / 256 ^ (3 - j) % 256)) := by
  have e : ∀ (l : List Nat) (i : Nat), i < l.length → (l.flatMap fun x => be x 4)[4 * i + j]? = (be (l.getD i 0) 4)[j]? := by
    intro l
    induction l with
    | nil => intro i h; cases h
    | cons x l ih =>
      intro i h
      cases i with
      | zero =>
        rw [List.flatMap_cons, List.getElem?_append_left (by rw [be_length]; omega)]
        simp
      | succ i =>
        rw [List.flatMap_cons, List.getElem?_append_right (by rw [be_length]; omega), be_length, show 4 * (i + 1) + j - 4 = 4 * i + j from by omega, ih i (by simpa using h)]
        simp
  rw [St.bytes, e s.list i hi, be4_at _ _ hj]
theorem bytesZ_succ (s : St) (i j : Nat) (hi : i < 8) (hj : j < 4) : (bytesZ s (4 * i + j)).set (4 * i + j) (UInt8.ofNat (s.list.getD i 0 / 256 ^ (3 - j) % 256)) = bytesZ s (4 * i + (j + 1)) := by
  have hl : 4 * i + j < s.bytes.length := by rw [St.bytes_length]; omega
  have hb := bytes_at s i j hi hj
  rw [List.getElem?_eq_getElem hl] at hb
  have hb := Option.some.inj hb
  have ht : (s.bytes.take (4 * i + j)).length = 4 * i + j := by simp; omega
  rw [bytesZ, bytesZ, ← Nat.add_assoc, List.take_succ_eq_append_getElem hl, hb, List.set_append_right _ _ (by omega), ht, Nat.sub_self,
    show 32 - (4 * i + j) = (32 - (4 * i + j + 1)) + 1 from by omega, List.replicate_succ, List.set_cons_zero, List.append_assoc]
  rfl
theorem u8s_set (l : List UInt8) (i : Nat) (x : UInt8) : u8s (l.set i x) = (u8s l).set i (.int .u8 x.toNat) := by simp [u8s, List.map_set]

/-- 'string(b[:])', b a row of bytes -/
theorem row_string {w : World} {g : Nat} {l : List UInt8} {t : TypeId} (h : w.heap[g]? = some (.cells (u8s l).toArray t (0, 0))) (cap : Nat) :
    (convert 34 9 (.slice (some ⟨g, 0, none⟩) l.length cap)).run Tryd.prog w = .ok (.string (str l)) w := by
  refine run_convert_bytes_back w 34 9 5 _ cap l Tryd.underlying34 Tryd.underlying5 Tryd.underlying9 fun j hj => ?_
  rw [show Addr.add ⟨g, 0, none⟩ j = (⟨g, j, none⟩ : Addr) from by simp [Addr.add]; omega, cell_of h, List.getElem?_toArray]
  simp [u8s, List.getElem?_eq_getElem hj]

theorem sum_index (v : St) (i : Nat) (hi : i < 8) (w : World) : (Instr.index 98 (.agg (u32s v.list).toArray) (.int .i64 i)).run Tryd.prog w = .ok (.int .u32 (v.list.getD i 0 : Nat)) w := st_index v i hi w
/-- what sum's second part keeps -/
structure MS (w wr : World) (b B : Nat) (s : St) (k : Nat) : Prop where
  g : w.grownBy wr (some b)
  c : wr.heap[B]? = some (.cells (u8s (bytesZ s k)).toArray 102 (0, 0))

theorem MS.put {w wr : World} {b B : Nat} {s : St} {i j : Nat} (h : MS w wr b B s (4 * i + j)) (hi : i < 8) (hj : j < 4) (hB : w.heap.size ≤ B) :
    MS w (wr.setCell ⟨B, 4 * i + j, none⟩ (.int .u8 (UInt8.ofNat (s.list.getD i 0 / 256 ^ (3 - j) % 256)).toNat)) b B s (4 * i + (j + 1)) := by
  refine ⟨grownBy_setNew h.g hB _ _, ?_⟩
  rw [heap_setCell h.c, List.setIfInBounds_toArray, ← u8s_set, bytesZ_succ s i j hi hj]
theorem slice_sum (B : Nat) (w : World) : (Instr.sliceAt 102 (.pointer (some ⟨B, 0, none⟩)) none none none).run Tryd.prog w = .ok (.slice (some ⟨B, 0, none⟩) 32 32) w := by
  have hl : Tryd.prog.arrayLen 102 = 32 := by kernel_rfl
  have he : Tryd.prog.elem 102 = 5 := by kernel_rfl
  obtain ⟨i0, h0⟩ : ∃ i0, Tryd.prog.info? 5 = some i0 := Option.isSome_iff_exists.1 (by kernel_rfl)
  have hc : Tryd.prog.cellsOf 5 = 1 := by kernel_rfl
  rw [run_sliceAt_array_all w 102 ⟨B, 0, none⟩ (by rw [hl, he]; exact Tryd.underlying102), hl, he, run_sizeOf w h0, hc]
  simp [Result.andThen, slicedAt, Addr.add]

set_option maxRecDepth 100000 in
set_option maxHeartbeats 1600000 in
theorem sum_any (w : World) (b : Nat) (l : List UInt8) (h : Took w b l) (hl : l.length ≤ 1000000000000000000) :
    Calls Tryd.prog 44 #[.pointer (some ⟨b, 0, none⟩)] w fun e w' => e = .returned (.string (str (shaL l))) ∧ w.grownBy w' (some b) := by
  have cs := (let ⟨_, _, _, _, _, h⟩ := h; h.size)
  have HT := Lib.hid h
  have hbl := h.lt
  clear h
  have HP : Hid (∃ K, K = (119 - l.length % 64) % 64) := ⟨_, rfl⟩
  obtain ⟨K, hK⟩ := HP.out
  have HK := Lib.hid hK
  clear hK HP
  go_enter Tryd.func44, Tryd.ntmps44
  go_wp2_with fail
  refine (writeByte_any _ b l 128 HT.out (by omega)).mono ?_
  rintro e w1 ⟨rfl, h1, g1⟩
  have H1 := Lib.hid h1
  have G1 := Lib.hid g1
  clear h1 g1 cs
  go_wp2_with fail
  go_loopg [15] K (fun g _ wr => ∃ k : Nat, k + g = K ∧ Hid (Took wr b (l ++ 128 :: List.replicate k 0)) ∧ Hid (w.grownBy wr (some b)))
  case atStart => exact ⟨0, by omega, H1.out, G1.out⟩
  case round =>
    clear H1 G1
    obtain ⟨k, hk, H1, G1⟩ := hrel
    obtain ⟨n, hn⟩ : ∃ n, (l ++ 128 :: List.replicate k 0).length = n := ⟨_, rfl⟩
    have hn2 : n = l.length + 1 + k := by rw [← hn]; simp; omega
    have hK := HK.out
    have cs := (let ⟨_, _, _, _, _, h⟩ := H1.out; h.size)
    rw [hn] at cs
    have HN := Lib.hid hn
    clear hn
    have ht : ∃ t : Bool, ((n : Int) % 64 != 56) = t ∧ (t = true ↔ n % 64 ≠ 56) := ⟨_, rfl, by rw [bne_iff_ne]; omega⟩
    obtain ⟨tb, htb, hti⟩ := ht
    have HTI := Lib.hid (And.intro hti hn2)
    have hnb : n ≤ 1000000000000000064 := by omega
    clear hti hn2 hK
    cases tb
    · have hp : (l ++ 128 :: List.replicate k 0) ++ be (8 * l.length) 8 = pad l := by
        have h1 := HTI.out
        have h2 := HK.out
        simp only [Bool.false_eq_true, false_iff, Decidable.not_not] at h1
        exact pad_parts l k (by omega) (by omega)
      have HPD := Lib.hid hp
      clear hp
      go_wp2_with fail
      rw [show (8 * (l.length : Int)) = ((8 * l.length : Nat) : Int) from by simp]
      refine (writeNum_any _ b _ (8 * l.length) 8 H1.out (by omega) (by omega) (by rw [HN.out]; omega)).mono ?_
      rintro e w2 ⟨rfl, h2, g2⟩
      rw [HPD.out] at h2
      have G2 : Hid (w.grownBy w2 (some b)) := grownBy_trans G1.out g2
      obtain ⟨hb, hr, st, blk, hg, hh⟩ := h2
      have HSH := Lib.hid (sha_of_took hg)
      have hblt := hh.lt
      have hra : w2.rangeAt b 0 (u32s st.list) := fun j v hv => by
        rw [Nat.zero_add, cell_of hh.2, List.getElem?_toArray, List.getElem?_append_left (List.getElem?_eq_some_iff.1 hv).1]
        exact hv
      have HRA := Lib.hid hra
      have hok := hg.ok
      have HGD := Lib.hid hg
      have hsz : w.heap.size ≤ w2.heap.size := G2.out.size
      clear g2 hr hg hra G1 H1 HTI HN hh
      go_wp2_with (first
        | (refine wpList_load_mid (by rfl) 98 (.tmp 28) (by rfl) b 0 (by rfl) (u32s st.list) (.array 8 85) (by exact World.rangeAt_alloc HRA.out _) Tryd.underlying98 (by rfl) (by rw [u32s_length, St.list_length]; kernel_rfl) ?_))
      go_loopw [30] (fun v wr => ∃ i : Nat, i ≤ 8 ∧ v = .int .i64 i ∧ MS w wr b w2.heap.size st (4 * i)) (fun v _ => 8 - (intOf v).toNat)
      case atStart => exact ⟨0, by omega, rfl, grownBy_alloc' G2.out _, heap_alloc_at _ _ _ rfl⟩
      case round =>
        obtain ⟨i, hi, rfl, hm⟩ := hrel
        by_cases hlt : i < 8
        · have q := sum_index st i hlt
          have hx := getD_lt (list_ok hok) (by decide) i
          generalize hX : st.list.getD i 0 = x at q hx
          have HX := Lib.hid hX
          have HM := Lib.hid hm
          clear hX hm
          have hd : decide ((i : Int) < 8) = true := by simp; omega
          go_wp2_with fail
          go_loopw [34] (fun v wr => ∃ j : Nat, j ≤ 4 ∧ v = .int .i64 j ∧ MS w wr b w2.heap.size st (4 * i + j)) (fun v _ => 4 - (intOf v).toNat)
          case atStart => exact ⟨0, by omega, rfl, HM.out⟩
          case round =>
            clear HM
            obtain ⟨j, hj, rfl, hm⟩ := hrel
            by_cases hjl : j < 4
            · obtain ⟨r, hr⟩ : ∃ r, 3 - j = r := ⟨_, rfl⟩
              have hr2 : (3 : Int) - (j : Int) = (r : Int) := by omega
              have hr3 : r ≤ 3 := by omega
              have c := cell_of hm.c (4 * i + j)
              rw [List.getElem?_toArray, u8s_at _ _ (by rw [bytesZ_length _ _ (by omega)]; omega)] at c
              have f := free_of hm.c (4 * i + j)
              have HR := Lib.hid hr
              have HM := Lib.hid hm
              have hsm := hm.g.size
              clear hr hm
              have b1 : (0 : Int) ≤ 4 * (i : Int) + j := by omega
              have b2 : 4 * (i : Int) + j < 32 := by omega
              have b3 : (4 * (i : Int) + j).toNat = 4 * i + j := by omega
              go_wp2_with fail
              go_roundw
              case rel =>
                refine ⟨j + 1, by omega, by go_num, ?_⟩
                have := HM.out.put hlt hjl hsz
                rw [HX.out, HR.out, ← byte_at] at this
                exact this
              case measure => simp [intOf]; omega
            · have : j = 4 := by omega
              subst this
              have HM : Hid (MS w wr b w2.heap.size st (4 * (i + 1))) := hm
              clear hm
              go_wp2_with fail
              go_roundw
              case rel => exact ⟨i + 1, by omega, by go_num, HM.out⟩
              case measure => simp [intOf]; omega
        · have : i = 8 := by omega
          subst this
          have hz : bytesZ st (4 * 8) = shaL l := by rw [← HSH.out]; simp [bytesZ, St.bytes_length]; exact List.take_of_length_le (by rw [St.bytes_length]; omega)
          have hc := hm.c
          rw [hz] at hc
          have hstr := row_string hc 32
          rw [shaL_length] at hstr
          have hsl := slice_sum w2.heap.size
          have HM := Lib.hid hm.g
          clear hm hz hc
          go_wp2_with fail
          go_ret
          exact ⟨rfl, HM.out⟩
    · go_wp2_with fail
      refine (writeByte_any _ b _ 0 H1.out (by rw [HN.out]; omega)).mono ?_
      rintro e w2 ⟨rfl, h2, g2⟩
      have H2 := Lib.hid h2
      have G2 := Lib.hid g2
      clear h2 g2
      have hgk : k + 1 + (gk - 1) = K := by
        have h1 := HTI.out
        have h2 := HK.out
        simp only [true_iff] at h1
        have : k ≠ K := by
          intro e
          subst e
          omega
        omega
      go_wp2_with fail
      go_roundg (gk - 1)
      case measure =>
        have h1 := HTI.out
        have h2 := HK.out
        simp only [true_iff] at h1
        have : k ≠ K := by
          intro e
          subst e
          omega
        omega
      case rel =>
        refine ⟨k + 1, hgk, ?_, grownBy_trans G1.out G2.out⟩
        show Took _ _ _
        have := H2.out
        rw [List.append_assoc, List.cons_append, ← List.replicate_succ'] at this
        exact this
end Go.Proofs.YtmdogeampigfoaaDoor
