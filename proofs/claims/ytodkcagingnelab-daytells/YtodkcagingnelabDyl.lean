/- The walk of IsSortedFunc. -/
import Derived.Test.YtodkcagingnelabDya
import Derived.Test.YtodkcagingnelabDyMathb
namespace Go.Proofs.Ytodkcagingnelab.Dy
open Go.RowKit Go.Proofs.Ytodkcagingnelab.Gn

theorem srt_of_adj : ∀ {L : List Rc}, (∀ j, j + 1 < L.length → gtB (L.getD j zR) (L.getD (j + 1) zR) = false) → Srt L
  | [], _ => srt_nil
  | [x], _ => List.pairwise_singleton _ _
  | x :: y :: r, h => by
    have ih : Srt (y :: r) := srt_of_adj fun j hj => by
      have := h (j + 1) (by simp at hj ⊢; omega)
      simpa using this
    have hxy : gtB x y = false := by have := h 0 (by simp); simpa using this
    refine List.pairwise_cons.2 ⟨fun z hz => ?_, ih⟩
    rcases List.mem_cons.1 hz with rfl | hz
    · exact hxy
    · exact gtB_trans hxy ((List.pairwise_cons.1 ih).1 z hz)
/-- Whether they are sorted. -/
def srtB (L : List Rc) : Bool := sameL L (sortR L)
theorem srtB_true {L : List Rc} (h : Srt L) : srtB L = true := sameL_true.2 (sort_of_srt h).symm
theorem srtB_false {L : List Rc} {j : Nat} (hj : j + 1 < L.length) (h : gtB (L.getD j zR) (L.getD (j + 1) zR) = true) : srtB L = false := by
  cases hb : srtB L
  · rfl
  · have := sameL_true.1 hb
    have hs : Srt L := by rw [this]; exact sort_srt L
    have := hs.at (i := j) (j := j + 1) (by omega) hj
    rw [h] at this; cases this

theorem lies_eight {w : World} {a : Option Addr} {cap : Nat} {L : List Rc} (h : Lies kR w a cap L) {i j : Nat} (hi : i < L.length) (hj : j < L.length) : ∃ g off, a = some ⟨g, off, none⟩ ∧ g < w.heap.size ∧
    (w.cell? ⟨g, off + i * 4, none⟩ = some (.int .i64 (L.getD i zR).sh) ∧ w.cell? ⟨g, off + i * 4 + 1, none⟩ = some (.int .i64 (L.getD i zR).au) ∧ w.cell? ⟨g, off + i * 4 + 2, none⟩ = some (.int .i64 (L.getD i zR).k) ∧ w.cell? ⟨g, off + i * 4 + 3, none⟩ = some (.int .i64 (L.getD i zR).m)) ∧
    (w.cell? ⟨g, off + j * 4, none⟩ = some (.int .i64 (L.getD j zR).sh) ∧ w.cell? ⟨g, off + j * 4 + 1, none⟩ = some (.int .i64 (L.getD j zR).au) ∧ w.cell? ⟨g, off + j * 4 + 2, none⟩ = some (.int .i64 (L.getD j zR).k) ∧ w.cell? ⟨g, off + j * 4 + 3, none⟩ = some (.int .i64 (L.getD j zR).m)) := by
  obtain ⟨b, off, rfl, hb, h1⟩ := rc_cells h hi
  obtain ⟨b', off', h2, -, h3⟩ := rc_cells h hj
  cases h2
  exact ⟨b, off, rfl, hb, h1, h3⟩

set_option maxHeartbeats 2000000 in
theorem isSorted_any (L : List Rc) (v : Value) (w : World) (h : At kR w v L) (hN : L.length ≤ 1000000000000000) :
    Calls Try.prog 77 #[v, .func (.func 73) #[] #[]] w fun e w' => e = .returned (.bool (srtB L)) ∧ Below w.heap.size w w' := by
  obtain ⟨a, c, rfl, hl⟩ := h
  go_enter Try.func77, Try.ntmps77
  go_wp2
  go_loopw [5] (fun i wr => ∃ k : Nat, (k ≤ L.length ∧ (k = 0 → L.length = 0)) ∧ i = .int .i64 ((k : Int) - 1) ∧ Hid (∀ j, k ≤ j + 1 → j + 1 < L.length → gtB (L.getD j zR) (L.getD (j + 1) zR) = false) ∧ Below w.heap.size w wr) (fun i _ => ((intOf i) + 1).toNat)
  case atStart => exact ⟨L.length, ⟨Nat.le_refl _, fun h => h⟩, by go_num, fun j h1 h2 => by omega, Below.refl _ _⟩
  case round =>
    obtain ⟨k, ⟨hk, hk0⟩, rfl, hadj, hb⟩ := hrel
    by_cases hlt : 1 < k
    · obtain ⟨r, rfl⟩ : ∃ r, k = r + 2 := ⟨k - 2, by omega⟩
      have hI : ((r + 2 : Nat) : Int) - 1 = (r : Int) + 1 := by omega
      rw [hI]
      have hgt : 0 < (r : Int) + 1 := by omega
      obtain ⟨g, off, rfl, hg, ⟨c1, c2, c3, c4⟩, d1, d2, d3, d4⟩ := lies_eight (hl.below hb) (i := r + 1) (j := r) (by omega) (by omega)
      obtain ⟨x, hx⟩ : ∃ x, Hid (L.getD (r + 1) zR = x) := ⟨_, rfl⟩
      obtain ⟨y, hy⟩ : ∃ y, Hid (L.getD r zR = y) := ⟨_, rfl⟩
      rw [hx.out] at c1 c2 c3 c4
      rw [hy.out] at d1 d2 d3 d4
      have hI0 : (0 : Int) ≤ (r : Int) + 1 := by omega
      have hI1 : (r : Int) + 1 < L.length := by omega
      have hI2 : (r : Int) < L.length := by omega
      have hI3 : r < L.length := by omega
      have hW1 : IntKind.i64.wrap ((r : Int) + 1 - 1) = r := by rw [Int.add_sub_cancel]; simp [IntKind.wrap, IntKind.bits, IntKind.signed]; omega
      have hW2 : IntKind.i64.wrap (r : Int) = r := by simp [IntKind.wrap, IntKind.bits, IntKind.signed]; omega
      obtain ⟨o, ho⟩ : ∃ o, Hid (ordR x y = o) := ⟨_, rfl⟩
      have hord : ∀ W : World, Calls Try.prog 73 #[rv x, rv y] W fun e w' => e = .returned (.int .i64 o) ∧ Below W.heap.size W w' := fun W => by rw [← ho.out]; exact order_any x y W
      unfold rv at hord
      clear hI
      go_upto_region 4 with fail
      go_region_held3 (fun X => X.cell? ⟨g, off + (r + 1) * 4, none⟩ = some (.int .i64 x.sh) ∧ X.cell? ⟨g, off + (r + 1) * 4 + 1, none⟩ = some (.int .i64 x.au) ∧ X.cell? ⟨g, off + (r + 1) * 4 + 2, none⟩ = some (.int .i64 x.k) ∧ X.cell? ⟨g, off + (r + 1) * 4 + 3, none⟩ = some (.int .i64 x.m) ∧
          X.cell? ⟨g, off + r * 4, none⟩ = some (.int .i64 y.sh) ∧ X.cell? ⟨g, off + r * 4 + 1, none⟩ = some (.int .i64 y.au) ∧ X.cell? ⟨g, off + r * 4 + 2, none⟩ = some (.int .i64 y.k) ∧ X.cell? ⟨g, off + r * 4 + 3, none⟩ = some (.int .i64 y.m))
        (first | exact ⟨c1, c2, c3, c4, d1, d2, d3, d4⟩ | exact ⟨(hb2.cell (p := ⟨g, _, none⟩) hg).trans c1, (hb2.cell (p := ⟨g, _, none⟩) hg).trans c2, (hb2.cell (p := ⟨g, _, none⟩) hg).trans c3, (hb2.cell (p := ⟨g, _, none⟩) hg).trans c4, (hb2.cell (p := ⟨g, _, none⟩) hg).trans d1, (hb2.cell (p := ⟨g, _, none⟩) hg).trans d2, (hb2.cell (p := ⟨g, _, none⟩) hg).trans d3, (hb2.cell (p := ⟨g, _, none⟩) hg).trans d4⟩)
        ((go_at_call 73; refine (hord _).mono ?_; rintro e w1 ⟨rfl, hb1⟩; have hb2 : Below wr.heap.size wr w1 := (Below.refl wr.heap.size wr).drew.trans hb1; clear hb1))
      have hbw : Below w.heap.size w w1 := hb.trans (hb2.mono hb.size)
      clear hord hb2
      by_cases ho0 : o < 0
      · have hgt2 : gtB (L.getD r zR) (L.getD (r + 1) zR) = true := by rw [hx.out, hy.out]; exact ord_neg.1 (by rw [ho.out]; exact ho0)
        have hE := hid (srtB_false (by omega) hgt2)
        clear hgt2
        go_wp2_with fail
        go_ret
        exact ⟨ret_bool hE.out.symm, hbw⟩
      · have hgt2 : gtB (L.getD r zR) (L.getD (r + 1) zR) = false := by rw [hx.out, hy.out]; exact ord_pos.1 (by rw [ho.out]; exact ho0)
        have hnew : Hid (∀ j, r + 1 ≤ j + 1 → j + 1 < L.length → gtB (L.getD j zR) (L.getD (j + 1) zR) = false) := hid fun j h1 h2 => by
          by_cases hj : j = r
          · subst hj; exact hgt2
          · exact hadj.out j (by omega) h2
        clear hgt2
        go_wp2_with fail
        go_roundw
        case rel => exact ⟨r + 1, ⟨by omega, fun h => by omega⟩, by go_num, hnew, hbw⟩
        case measure => simp [intOf]; omega
    · have hng : ¬ (0 < (k : Int) - 1) := by omega
      have hE := hid (srtB_true (srt_of_adj (L := L) fun j hj => hadj.out j (by omega) hj))
      go_wp2_with fail
      go_ret
      exact ⟨ret_bool hE.out.symm, hb⟩
end Go.Proofs.Ytodkcagingnelab.Dy
