/- Records in memory: as values, as cells; a list of records in a block of the call's own, written in place. -/
import Derived.Test.YtodkcagingnelabChecked
import Derived.Test.YtodkcagingnelabDySort
import Derived.Test.YtodkcagingnelabGn
import Derived.Test.YtodkcagingnelabGnByte
import Derived.Deep.QuietTactic
import Derived.BigQuiet
import Derived.Deep.RegionWith
import Derived.Deep.RegionLaw
import Derived.Deep.CutRange
import Derived.Deep.RegionHeld3
namespace Go.Proofs.Ytodkcagingnelab.Dy
open Go.RowKit Go.Proofs.Ytodkcagingnelab.Gn

/-- A record, as a value, as cells. -/
def rv (r : Rc) : Value := .agg #[.int .i64 r.sh, .int .i64 r.au, .int .i64 r.k, .int .i64 r.m]
def rob (r : Rc) : Obj := .cells #[.int .i64 r.sh, .int .i64 r.au, .int .i64 r.k, .int .i64 r.m] 87
def kR : Kind Rc where
  cells := fun r => [.int .i64 r.sh, .int .i64 r.au, .int .i64 r.k, .int .i64 r.m]
  size := 4
  len := fun _ => rfl
  one := fun x u hu => by simp at hu; rcases hu with rfl | rfl | rfl | rfl <;> rfl
  pos := by decide

theorem infoR : (Try.prog.info? 87).map (fun i => (i.zero, i.size, i.bytes)) = some (some (.agg #[.int .i64 0, .int .i64 0, .int .i64 0, .int .i64 0]), 4, 32) := by kernel_rfl
theorem elemR : Elem Try.prog kR 74 87 32 := by
  obtain ⟨i, h1, h2, h3, h4⟩ := info_parts infoR
  exact ⟨Try.underlying74, i, _, h1, h2, h3, h4, rfl⟩

theorem rc_cells {w : World} {a : Option Addr} {cap : Nat} {L : List Rc} (h : Lies kR w a cap L) {i : Nat} (hi : i < L.length) :
    ∃ b off, a = some ⟨b, off, none⟩ ∧ b < w.heap.size ∧ w.cell? ⟨b, off + i * 4, none⟩ = some (.int .i64 (L.getD i zR).sh) ∧ w.cell? ⟨b, off + i * 4 + 1, none⟩ = some (.int .i64 (L.getD i zR).au) ∧
      w.cell? ⟨b, off + i * 4 + 2, none⟩ = some (.int .i64 (L.getD i zR).k) ∧ w.cell? ⟨b, off + i * 4 + 3, none⟩ = some (.int .i64 (L.getD i zR).m) := by
  obtain ⟨b, off, ha, hb, hc⟩ := h.elem (i := i) (x := L.getD i zR) (by simp [List.getD, hi])
  exact ⟨b, off, ha, hb, hc 0 _ rfl, hc 1 _ rfl, hc 2 _ rfl, hc 3 _ rfl⟩

theorem ret_bool {a b : Bool} (h : a = b) : Ending.returned (.bool a) = .returned (.bool b) := by rw [h]
theorem ret_int {k : IntKind} {a b : Int} (h : a = b) : Ending.returned (.int k a) = .returned (.int k b) := by rw [h]
theorem hid {p : Prop} (h : p) : Hid p := h
theorem bel_alloc {W X : World} (h : Below W.heap.size W X) (o : Obj) : Below W.heap.size W (X.alloc o) := h.alloc h.size o

/-- A slice value that lies in memory as a list. -/
def At {α : Type} (K : Kind α) (W : World) (v : Value) (L : List α) : Prop := ∃ a cap, v = .slice a L.length cap ∧ Lies K W a cap L
theorem At.below {α : Type} {K : Kind α} {W W' : World} {v : Value} {L : List α} (h : At K W v L) (hb : Below W.heap.size W W') : At K W' v L := by
  obtain ⟨a, cap, rfl, hl⟩ := h
  exact ⟨a, cap, rfl, hl.below hb⟩
theorem At.drew {α : Type} {K : Kind α} {W : World} {v : Value} {L : List α} (h : At K W v L) : At K W.drew v L := by
  obtain ⟨a, cap, rfl, hl⟩ := h
  exact ⟨a, cap, rfl, hl.drew⟩
theorem At.len {α : Type} {K : Kind α} {W : World} {v : Value} {L : List α} (h : At K W v L) : L.length ≤ maxLen := by
  obtain ⟨a, cap, rfl, hl⟩ := h
  exact hl.len
theorem row_at {α : Type} {K : Kind α} {e : TypeId} {W : World} {base : Nat} {v : Value} {L : List α} (h : Row K e W base v L) : ∃ a cap, v = .slice a L.length cap ∧ Row K e W base (.slice a L.length cap) L ∧ Lies K W a cap L := by
  obtain ⟨a, cap, rfl, hl, -, -⟩ := h.lies
  exact ⟨a, cap, rfl, h, hl⟩
theorem Row.at {α : Type} {K : Kind α} {e : TypeId} {W : World} {base : Nat} {v : Value} {L : List α} (h : Row K e W base v L) : At K W v L := by
  obtain ⟨a, cap, h1, -, h2⟩ := row_at h
  exact ⟨a, cap, h1, h2⟩
theorem at_nil {α : Type} (K : Kind α) (W : World) : At K W (.slice none 0 0) [] := ⟨none, 0, rfl, lies_nil K W⟩

/-! ### A block of records, written in place -/
/-- Block g holds the records L from its first cell on. -/
def Blo (w : World) (g : Nat) (L : List Rc) : Prop := L.length ≤ maxLen ∧ ∃ rest : List Value, w.heap[g]? = some (.cells (kR.flat L ++ rest).toArray 87)
theorem Blo.lt {w : World} {g : Nat} {L : List Rc} (h : Blo w g L) : g < w.heap.size := by
  obtain ⟨-, rest, h⟩ := h
  exact lt_of_block h
theorem Blo.keep {w w' : World} {g : Nat} {L : List Rc} (h : Blo w g L) (hk : w'.heap[g]? = w.heap[g]?) : Blo w' g L := by
  obtain ⟨h0, rest, h⟩ := h
  exact ⟨h0, rest, hk.trans h⟩
theorem Blo.below {w w' : World} {g : Nat} {L : List Rc} (h : Blo w g L) {B : Nat} (hb : Below B w w') (hg : g < B) : Blo w' g L := h.keep (hb.block g hg)
theorem Blo.alloc {w : World} {g : Nat} {L : List Rc} (h : Blo w g L) (o : Obj) : Blo (w.alloc o) g L := h.below (below_alloc w o) h.lt
theorem Blo.lies {w : World} {g : Nat} {L : List Rc} (h : Blo w g L) (cap : Nat) : Lies kR w (some ⟨g, 0, none⟩) cap L := by
  have hlt := h.lt
  obtain ⟨h0, rest, h⟩ := h
  refine ⟨h0, (fun h => by cases h), Or.inr ⟨g, 0, rfl, hlt, fun j u hj => ?_⟩⟩
  rw [Nat.zero_add, cell_of_row w g j _ _ _ h]
  have : j < (kR.flat L).length := (List.getElem?_eq_some_iff.1 hj).1
  simp only [List.getElem?_toArray]
  rw [List.getElem?_append_left this]; exact hj
theorem Blo.free {w : World} {g : Nat} {L : List Rc} (h : Blo w g L) (p : Nat) : w.frozen? ⟨g, p, none⟩ = false := by
  obtain ⟨-, rest, h⟩ := h
  simp [World.frozen?, h]
/-- A record is written over the i-th one. -/
def put4 (w : World) (g p : Nat) (r : Rc) : World := (((w.setCell ⟨g, p, none⟩ (.int .i64 r.sh)).setCell ⟨g, p + 1, none⟩ (.int .i64 r.au)).setCell ⟨g, p + 2, none⟩ (.int .i64 r.k)).setCell ⟨g, p + 3, none⟩ (.int .i64 r.m)
theorem flat_len4 (L : List Rc) : (kR.flat L).length = L.length * 4 := kR.flat_length L
theorem set_behind (A M : List Value) (k : Nat) (v : Value) : (A ++ M).set (A.length + k) v = A ++ M.set k v := by
  induction A with
  | nil => simp
  | cons a A ih => rw [List.cons_append, List.length_cons, show A.length + 1 + k = (A.length + k) + 1 by omega, List.set_cons_succ, ih]; rfl
theorem put_list (A B : List Value) (c0 c1 c2 c3 v0 v1 v2 v3 : Value) : ((((A ++ c0 :: c1 :: c2 :: c3 :: B).set A.length v0).set (A.length + 1) v1).set (A.length + 2) v2).set (A.length + 3) v3 = A ++ v0 :: v1 :: v2 :: v3 :: B := by
  have e : (A ++ c0 :: c1 :: c2 :: c3 :: B).set A.length v0 = A ++ v0 :: c1 :: c2 :: c3 :: B := set_behind A (c0 :: c1 :: c2 :: c3 :: B) 0 v0
  rw [e, set_behind, set_behind, set_behind]
  rfl
theorem flat_split {L : List Rc} {i : Nat} (hi : i < L.length) (rest : List Value) : kR.flat L ++ rest = kR.flat (L.take i) ++ .int .i64 (L.getD i zR).sh :: .int .i64 (L.getD i zR).au :: .int .i64 (L.getD i zR).k :: .int .i64 (L.getD i zR).m :: (kR.flat (L.drop (i + 1)) ++ rest) := by
  have hx : L = L.take i ++ L.getD i zR :: L.drop (i + 1) := by rw [← drop_at hi, List.take_append_drop]
  conv => lhs; rw [hx, kR.flat_append, kR.flat_cons]
  rw [List.append_assoc, List.append_assoc]
  rfl
theorem flat_split' {L : List Rc} {i : Nat} (hi : i < L.length) (r : Rc) (rest : List Value) : kR.flat (L.set i r) ++ rest = kR.flat (L.take i) ++ .int .i64 r.sh :: .int .i64 r.au :: .int .i64 r.k :: .int .i64 r.m :: (kR.flat (L.drop (i + 1)) ++ rest) := by
  have hx : L = L.take i ++ L.getD i zR :: L.drop (i + 1) := by rw [← drop_at hi, List.take_append_drop]
  have hs : L.set i r = L.take i ++ r :: L.drop (i + 1) := by
    conv => lhs; rw [hx]
    exact set_app' (by simp; omega) _ _ _
  rw [hs, kR.flat_append, kR.flat_cons, List.append_assoc, List.append_assoc]
  rfl
theorem Blo.put {w : World} {g : Nat} {L : List Rc} (h : Blo w g L) {i p : Nat} (hi : i < L.length) (hp : p = i * 4) (r : Rc) : Blo (put4 w g p r) g (L.set i r) := by
  obtain ⟨h0, rest, h⟩ := h
  refine ⟨by rw [List.length_set]; exact h0, rest, ?_⟩
  have hA : p = (kR.flat (L.take i)).length := by rw [flat_len4, hp]; simp; omega
  rw [flat_split hi] at h
  rw [flat_split' hi]
  generalize kR.flat (L.take i) = A at *
  generalize kR.flat (L.drop (i + 1)) ++ rest = B at *
  clear hp
  subst hA
  have h1 := heap_setCell_same w g A.length _ _ (.int .i64 r.sh) h
  have h2 := heap_setCell_same _ g (A.length + 1) _ _ (.int .i64 r.au) h1
  have h3 := heap_setCell_same _ g (A.length + 2) _ _ (.int .i64 r.k) h2
  have h4 := heap_setCell_same _ g (A.length + 3) _ _ (.int .i64 r.m) h3
  unfold put4
  rw [h4]
  simp only [List.setIfInBounds_toArray]
  rw [put_list]
theorem put4_other (w : World) (g p k : Nat) (r : Rc) (h : k ≠ g) : (put4 w g p r).heap[k]? = w.heap[k]? := by
  unfold put4
  rw [heap_setCell_other _ ⟨g, p + 3, none⟩ _ _ h, heap_setCell_other _ ⟨g, p + 2, none⟩ _ _ h, heap_setCell_other _ ⟨g, p + 1, none⟩ _ _ h, heap_setCell_other _ ⟨g, p, none⟩ _ _ h]
theorem put4_size (w : World) (g p : Nat) (r : Rc) : (put4 w g p r).heap.size = w.heap.size := by simp [put4]
theorem put4_below {B : Nat} {w W : World} (hb : Below B w W) (g p : Nat) (h : B ≤ g) (r : Rc) : Below B w (put4 W g p r) := by
  have h0 : B ≤ (⟨g, p, none⟩ : Addr).block := h
  have h1 : B ≤ (⟨g, p + 1, none⟩ : Addr).block := h
  have h2 : B ≤ (⟨g, p + 2, none⟩ : Addr).block := h
  have h3 : B ≤ (⟨g, p + 3, none⟩ : Addr).block := h
  exact (((hb.setCell h0 _).setCell h1 _).setCell h2 _).setCell h3 _
theorem Blo.cells {w : World} {g : Nat} {L : List Rc} (h : Blo w g L) {i : Nat} (hi : i < L.length) :
    w.cell? ⟨g, i * 4, none⟩ = some (.int .i64 (L.getD i zR).sh) ∧ w.cell? ⟨g, i * 4 + 1, none⟩ = some (.int .i64 (L.getD i zR).au) ∧
      w.cell? ⟨g, i * 4 + 2, none⟩ = some (.int .i64 (L.getD i zR).k) ∧ w.cell? ⟨g, i * 4 + 3, none⟩ = some (.int .i64 (L.getD i zR).m) := by
  obtain ⟨b, off, ha, -, h1, h2, h3, h4⟩ := rc_cells (h.lies 0) hi
  cases ha
  rw [Nat.zero_add] at h1 h2 h3 h4
  exact ⟨h1, h2, h3, h4⟩
/-- What the call owns, as a block. -/
theorem blo_of_owns {w : World} {base : Nat} {v : Value} {L : List Rc} (h : w.ownsRow base 87 4 v L.length (kR.flat L)) (h0 : L ≠ []) : ∃ g cap, v = .slice (some ⟨g, 0, none⟩) L.length cap ∧ L.length ≤ cap ∧ base ≤ g ∧ Blo w g L := by
  rcases h.2 with ⟨rfl, hn⟩ | ⟨g, cap, cur, rfl, hg, hh, hn, hm, hc, hx⟩
  · exact absurd (List.eq_nil_of_length_eq_zero hn) h0
  · refine ⟨g, cap, rfl, hn, hg, Nat.le_trans hn hm, cur.toList.drop (L.length * 4), ?_⟩
    rw [hh]
    congr 2
    apply Array.toList_inj.1
    rw [← hx]
    simp
end Go.Proofs.Ytodkcagingnelab.Dy
