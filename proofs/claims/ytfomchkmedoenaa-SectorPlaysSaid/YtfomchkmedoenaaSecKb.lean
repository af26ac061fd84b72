/- What lies in memory in the law SectorKeeps. No walk. -/
import Derived.Test.YtfomchkmedoenaaSecKp
import Derived.Test.YtfomchkmedoenaaSecSpk
import Derived.Test.YtfomchkmedoenaaSecKS
import Derived.Deep.DeepCutAuto
import Derived.Deep.CutBlock
import Derived.Deep.RegionWith
namespace Go.Proofs.Ytfomchkmedoenaa
open Go.RowKit

/-- a list of acts: the sector's number and the text of each -/
def ActsAt (w : World) (v : Value) (L : List (Int × ByteArray)) : Prop :=
  ∃ a cap, v = .slice a L.length cap ∧ ∀ i (h : i < L.length), ∃ g o, a = some ⟨g, o, none⟩ ∧ w.cell? ⟨g, o + i * 5 + 1, none⟩ = some (.int .i64 (L[i]).1) ∧ w.cell? ⟨g, o + i * 5 + 3, none⟩ = some (.string (L[i]).2)
theorem ActsAt.below {n0 : Nat} {w w' : World} {v : Value} {L : List (Int × ByteArray)} (h : ActsAt w v L) (hn : n0 = w.heap.size) (k : Below n0 w w') : ActsAt w' v L := by
  subst hn
  obtain ⟨a, cap, e, hc⟩ := h
  refine ⟨a, cap, e, fun i hi => ?_⟩
  obtain ⟨g, o, e2, h1, h2⟩ := hc i hi
  exact ⟨g, o, e2, (k.cell (p := ⟨g, o + i * 5 + 1, none⟩) (cell_lt h1)).trans h1, (k.cell (p := ⟨g, o + i * 5 + 3, none⟩) (cell_lt h2)).trans h2⟩

theorem infoStrW : (Try.prog.info? 9).map (fun i => (i.zero, i.size, i.bytes)) = some (some (.string ⟨#[]⟩), 1, 16) := by kernel_rfl
/-- the blocks of the law's own in the second part -/
def xsB (LB TB XB : Nat) (V : List Value) : List Nat := XB :: TB :: LB :: V.filterMap Value.ownBlock
theorem xsB_mem {LB TB XB g : Nat} {V : List Value} {i : Nat} {v : Value} (h : V[i]? = some v) (hg : v.ownBlock = some g) : g ∈ xsB LB TB XB V := by
  unfold xsB
  simp only [List.mem_cons]
  exact .inr (.inr (.inr (List.mem_filterMap.2 ⟨v, List.mem_of_getElem? h, hg⟩)))
theorem one_str (T : ByteArray) : ∀ u ∈ [Value.string T], u.oneCell' = true := by
  intro u hu
  simp at hu
  subst hu
  rfl
theorem read_k {n0 : Nat} {X : List Nat} {w : World} {b : Nat} {D : DiskS} (i : Nat) (hm : KDisk n0 X w b D) (h : D.on = true) (hi : i < D.last.length) (hwl : D.wait.length ≤ 1000000000) :
    Calls Try.prog 9 #[.pointer (some ⟨b, 0, none⟩), .int .i64 i] w fun e w' => e = .returned (.tuple #[.string (str (readL D.last D.wait i)), .int .i64 0]) ∧ w.grownBy w' none := read_ok _ b i D w hm h hi hwl
/-- is the k-th byte the old one, or that of one of these texts? -/
def okB (s u : ByteArray) (l : List ByteArray) (k : Nat) : Bool := (s.data.toList[k]? == u.data.toList[k]?) || l.any (fun t => s.data.toList[k]? == t.data.toList[k]?)
theorem byte_at (s : ByteArray) (k : Nat) (h : k < s.size) : s.data.toList[k]? = some s[k] := by
  rw [List.getElem?_eq_getElem (by simpa using h)]
  rfl
theorem byte_eq (s u : ByteArray) (k : Nat) (h : k < s.size) (h2 : k < u.size) : (s.data.toList[k]? == u.data.toList[k]?) = (((s[k].toNat : Nat) : Int) == ((u[k].toNat : Nat) : Int)) := by
  rw [byte_at s k h, byte_at u k h2, Bool.eq_iff_iff]
  simp only [beq_iff_eq, Option.some.injEq]
  exact ⟨fun h => by rw [h], fun h => UInt8.toNat_inj.1 (by omega)⟩
theorem okB_snoc (s u : ByteArray) (l : List ByteArray) (t : ByteArray) (k : Nat) : okB s u (l ++ [t]) k = (okB s u l k || (s.data.toList[k]? == t.data.toList[k]?)) := by
  unfold okB
  rw [List.any_append, Bool.or_assoc]
  simp
theorem okB_all {n : Nat} {S : List (List UInt8)} {ws : List (Nat × List UInt8)} {ks : List UInt8} (hS : Secs S) (hw : Waits S.length ws) (i k : Nat) (hk : k < 64) : okB (str ((cutL S ws ks).getD i [])) (str (S.getD i [])) (txsL ws i) k = true := by
  unfold okB
  rw [Bool.or_eq_true]
  rcases cutL_keeps ws ks S hS hw i k hk with h | ⟨x, hx, hxi, h⟩
  · left
    show (((cutL S ws ks).getD i [])[k]? == (S.getD i [])[k]?) = true
    rw [h]
    simp
  · right
    rw [List.any_eq_true]
    refine ⟨str x.2, by rw [← hxi]; exact txsL_mem hx, ?_⟩
    show (((cutL S ws ks).getD i [])[k]? == x.2[k]?) = true
    rw [h]
    simp
end Go.Proofs.Ytfomchkmedoenaa
