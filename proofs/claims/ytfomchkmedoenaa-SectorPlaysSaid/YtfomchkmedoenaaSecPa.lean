/- SectorPlays: its acts in memory. -/
import Derived.Test.YtfomchkmedoenaaSecPt
import Derived.Test.YtfomchkmedoenaaSecSpk
import Derived.Test.YtfomchkmedoenaaSecOn
import Derived.Deep.DeepCutAuto
import Derived.Deep.CutBlock
import Derived.Deep.RegionWith
namespace Go.Proofs.Ytfomchkmedoenaa
open Go.RowKit

structure ActS where
  what : Int
  at_ : Int
  n : Int
  text : ByteArray
  keep : List UInt8
def PActsAt (w : World) (v : Value) (L : List ActS) : Prop :=
  ∃ a cap, v = .slice a L.length cap ∧ ∀ i (h : i < L.length), ∃ g o kv, a = some ⟨g, o, none⟩ ∧ w.cell? ⟨g, o + i * 5, none⟩ = some (.int .i64 L[i].what) ∧ w.cell? ⟨g, o + i * 5 + 1, none⟩ = some (.int .i64 L[i].at_) ∧ w.cell? ⟨g, o + i * 5 + 2, none⟩ = some (.int .i64 L[i].n) ∧ w.cell? ⟨g, o + i * 5 + 3, none⟩ = some (.string L[i].text) ∧ w.cell? ⟨g, o + i * 5 + 4, none⟩ = some kv ∧
    ∃ ka kc, kv = .slice ka L[i].keep.length kc ∧ BytesAt w kv L[i].keep ∧ L[i].keep.length ≤ 140737488351232 ∧ (0 < L[i].keep.length → ∀ g o, ka = some ⟨g, o, none⟩ → g < w.heap.size)
structure ActOk (x : ActS) : Prop where
  n1 : x.n ≤ 9223372036854775807
  t : x.text.size ≤ maxLen
  w1 : -9223372036854775808 ≤ x.what
  w2 : x.what ≤ 9223372036854775807
end Go.Proofs.Ytfomchkmedoenaa
