/- Slices of bytes: lists that lie in memory; the string of their bytes. No program here. -/
import Derived.Test.YtodkcagingnelabGn
import Derived.Laws.BytesString
namespace Go.Proofs.Ytodkcagingnelab.Gn
open Go.RowKit

def kB : Kind Int where
  cells := fun x => [.int .u8 x]
  size := 1
  len := fun _ => rfl
  one := fun x u hu => by simp at hu; subst hu; rfl
  pos := by decide

theorem kB_flat (L : List Int) : kB.flat L = L.map fun x => Value.int .u8 x := by
  induction L with
  | nil => rfl
  | cons x r ih => rw [kB.flat_cons, ih]; rfl

theorem byte_cell {w : World} {a : Option Addr} {cap : Nat} {L : List Int} (h : Lies kB w a cap L) {i : Nat} (hi : i < L.length) :
    ∃ b off, a = some ⟨b, off, none⟩ ∧ b < w.heap.size ∧ w.cell? ⟨b, off + i, none⟩ = some (.int .u8 (L.getD i 0)) := by
  obtain ⟨b, off, ha, hb, hc⟩ := h.elem (i := i) (x := L.getD i 0) (by simp [List.getD, hi])
  refine ⟨b, off, ha, hb, ?_⟩
  have := hc 0 _ rfl
  simpa [kB] using this

/-- The string of these bytes. -/
def strOf (L : List Int) : ByteArray := L.foldl (fun r n => r.push (UInt8.ofNat n.toNat)) ByteArray.empty

theorem run_string_of {P : Program} {w : World} {src dst e : TypeId} (hs : P.underlying src = some (.slice e)) (he : P.underlying e = some (.int .u8)) (hd : P.underlying dst = some .string)
    {a : Option Addr} {cap : Nat} {L : List Int} (h : Lies kB w a cap L) : (convert src dst (.slice a L.length cap)).run P w = .ok (.string (strOf L)) w := by
  rw [run_convert_bytes_string w src dst e a L.length cap hs he hd]
  cases a with
  | none =>
    have h0 := h.none_nil
    subst h0
    rfl
  | some ad =>
    have hl := run_loadCells_list (P := P) w ad (L.map (Value.int .u8)) (fun j v hj => h.cells j v (by rw [kB_flat]; exact hj))
    rw [List.length_map] at hl
    exact run_bytesToString w ad L.length cap L hl
end Go.Proofs.Ytodkcagingnelab.Gn
