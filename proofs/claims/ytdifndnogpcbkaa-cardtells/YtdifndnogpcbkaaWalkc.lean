/- The walk of Uses. -/
import Derived.Test.YtdifndnogpcbkaaWalka
namespace Go.Proofs.Ytdifndnogpcbkaa
open Go.RowKit

theorem below_alloc (w : World) (o : Obj) : Below w.heap.size w (w.alloc o) := (Below.refl _ _).alloc (Nat.le_refl _) o

theorem below_call {w wr w1 : World} {o : Obj} (bw : Below w.heap.size w wr) (hb1 : Below (wr.alloc o).heap.size (wr.alloc o) w1) : Below w.heap.size w w1 :=
  bw.trans ((((Below.refl _ _).alloc (Nat.le_refl _) o).mono bw.size).trans (hb1.mono (by have := bw.size; simp; omega)))

theorem below_up {B : Nat} {wr w1 : World} {o : Obj} (s1 : B ≤ wr.heap.size) (hb1 : Below (wr.alloc o).heap.size (wr.alloc o) w1) : Below B wr w1 :=
  (((Below.refl _ _).alloc (Nat.le_refl _) o).trans (hb1.mono (by simp))).mono s1

/-- What is known behind a call that was handed a copy of a use: the result's cells, the copy's cells, all that is elder. -/
theorem after_call {w wr w1 : World} {x : Int × Int} (s1 : w.heap.size + 1 ≤ wr.heap.size)
    (r0 : wr.cell? ⟨w.heap.size, 0, none⟩ = some (.int .i64 0)) (r1 : wr.cell? ⟨w.heap.size, 1, none⟩ = some (.int .i64 0))
    (f0 : wr.frozen? ⟨w.heap.size, 0, none⟩ = false) (f1 : wr.frozen? ⟨w.heap.size, 1, none⟩ = false)
    (hb1 : Below (wr.alloc (.cells #[.int .i64 x.1, .int .i64 x.2] 58)).heap.size (wr.alloc (.cells #[.int .i64 x.1, .int .i64 x.2] 58)) w1) :
    w1.cell? ⟨w.heap.size, 0, none⟩ = some (.int .i64 0) ∧ w1.cell? ⟨w.heap.size, 1, none⟩ = some (.int .i64 0) ∧ w1.frozen? ⟨w.heap.size, 0, none⟩ = false ∧ w1.frozen? ⟨w.heap.size, 1, none⟩ = false ∧
    w1.cell? ⟨wr.heap.size, 0, none⟩ = some (.int .i64 x.1) ∧ w1.cell? ⟨wr.heap.size, 1, none⟩ = some (.int .i64 x.2) ∧ wr.heap.size + 1 ≤ w1.heap.size ∧
    ∀ b o, b < wr.heap.size → w1.cell? ⟨b, o, none⟩ = wr.cell? ⟨b, o, none⟩ := by
  have s2 := hb1.size
  simp only [World.size_alloc] at s2
  have a1 : ∀ b o, b < wr.heap.size → w1.cell? ⟨b, o, none⟩ = wr.cell? ⟨b, o, none⟩ := fun b o h => (hb1.cell (p := ⟨b, o, none⟩) (by simp; omega)).trans (World.cell?_alloc_past _ _ _ h)
  have a2 : ∀ b o, b < wr.heap.size → w1.frozen? ⟨b, o, none⟩ = wr.frozen? ⟨b, o, none⟩ := fun b o h => (hb1.frozen (p := ⟨b, o, none⟩) (by simp; omega)).trans (World.frozen?_alloc_past _ _ _ h)
  refine ⟨(a1 _ _ (by omega)).trans r0, (a1 _ _ (by omega)).trans r1, (a2 _ _ (by omega)).trans f0, (a2 _ _ (by omega)).trans f1, ?_, ?_, s2, a1⟩
  · exact (hb1.cell (p := ⟨wr.heap.size, 0, none⟩) (by simp)).trans (by rw [World.cell?_alloc_at _ _ _ _ rfl]; rfl)
  · exact (hb1.cell (p := ⟨wr.heap.size, 1, none⟩) (by simp)).trans (by rw [World.cell?_alloc_at _ _ _ _ rfl]; rfl)

/-- The result's block, as it lies through the rounds. -/
theorem fault_cells {w wr : World} (hb : Below (w.heap.size + 1) (w.alloc (.cells #[.int .i64 0, .int .i64 0] 25)) wr) :
    wr.cell? ⟨w.heap.size, 0, none⟩ = some (.int .i64 0) ∧ wr.cell? ⟨w.heap.size, 1, none⟩ = some (.int .i64 0) ∧ wr.frozen? ⟨w.heap.size, 0, none⟩ = false ∧ wr.frozen? ⟨w.heap.size, 1, none⟩ = false :=
  ⟨(hb.cell (p := ⟨w.heap.size, 0, none⟩) (by simp)).trans (by rw [World.cell?_alloc_at _ _ _ _ rfl]; rfl), (hb.cell (p := ⟨w.heap.size, 1, none⟩) (by simp)).trans (by rw [World.cell?_alloc_at _ _ _ _ rfl]; rfl),
    (hb.frozen (p := ⟨w.heap.size, 0, none⟩) (by simp)).trans (World.frozen?_alloc_at _ _ _ _ rfl), (hb.frozen (p := ⟨w.heap.size, 1, none⟩) (by simp)).trans (World.frozen?_alloc_at _ _ _ _ rfl)⟩

set_option maxHeartbeats 1000000 in
theorem uses_any (a : Option Addr) (cap : Nat) (L : List (Int × Int)) (w : World) (hL : Ents w a L) :
    Calls Try.prog 38 #[.slice a L.length cap] w fun e w' => e = .returned (.agg #[.int .i64 (uses L).1, .int .i64 (uses L).2]) ∧ Below w.heap.size w w' := by
  obtain ⟨hm, hL⟩ := hL
  unfold maxLen at hm
  have b1 : Below w.heap.size w (w.alloc (.cells #[.int .i64 0, .int .i64 0] 25)) := (Below.refl _ _).alloc (Nat.le_refl _) _
  by_cases hf : 30 < L.length
  · have HG := hid (uses_many hf)
    have hf' : (30 : Int) < L.length := by omega
    go_enter Try.func38, Try.ntmps38
    go_wp2
    refine bodyPost_ret (v := .agg #[.int .i64 5, .int .i64 0]) (by simp [results, Try.results38, go_sem]; try rfl) rfl ⟨?_, ?_⟩
    · rw [HG.out]
    · first | exact (Below.refl _ _).alloc (Nat.le_refl _) _ | exact (b1.setCell (Nat.le_refl _) _).setCell (Nat.le_refl _) _
  have hf0 : L.length ≤ 30 := by omega
  have hf' : (L.length : Int) ≤ 30 := by omega
  clear hf
  go_enter Try.func38, Try.ntmps38
  go_wp2
  go_loopw [11] (fun i wr => ∃ (k : Nat), k ≤ L.length ∧ i = .int .i64 k ∧ Hid (Good L k) ∧ Below (w.heap.size + 1) (w.alloc (.cells #[.int .i64 0, .int .i64 0] 25)) wr) (fun i _ => L.length - (intOf i).toNat)
  case atStart => exact ⟨0, Nat.zero_le _, rfl, good_zero hf0, Below.refl _ _⟩
  case round =>
    obtain ⟨k, hk, rfl, hg, hb⟩ := hrel
    have s1 := hb.size
    simp only [World.size_alloc] at s1
    have bw := b1.trans (hb.mono (by omega))
    obtain ⟨r0, r1, f0, f1⟩ := fault_cells hb
    by_cases hlt : k < L.length
    · rcases hL with rfl | ⟨b, off, rfl, hbl, hcell⟩
      · simp at hlt
      obtain ⟨c1, c2⟩ := hcell k hlt
      have hlt' : (k : Int) < L.length := by omega
      have e1 := (bw.cell (p := ⟨b, off + k * 2, none⟩) hbl).trans c1
      have e2 := (bw.cell (p := ⟨b, off + k * 2 + 1, none⟩) hbl).trans c2
      have eP : 0 < k → wr.cell? ⟨b, off + (k - 1) * 2, none⟩ = some (.int .i64 (L.getD (k - 1) (0, 0)).1) := fun h0 => (bw.cell (p := ⟨b, off + (k - 1) * 2, none⟩) hbl).trans (hcell (k - 1) (by omega)).1
      have G := fun h => hg.out.range hlt h
      have G3 := fun h => hg.out.order hlt h
      have G4 := fun h => hg.out.next hlt h
      clear c1 c2 hcell
      generalize hx : L.getD k (0, 0) = x at *
      clear hx
      by_cases hr : inU x = false
      · have HG := hid (G hr)
        clear G G3 G4 hg eP
        go_wp2_with fail
        refine (inRange_any x _).mono ?_
        rintro e w1 ⟨rfl, hb1⟩
        rw [hr]
        obtain ⟨R0, R1, F0, F1, -, -, s2, -⟩ := after_call s1 r0 r1 f0 f1 hb1
        go_wp2
        refine bodyPost_ret (v := .agg #[.int .i64 3, .int .i64 k]) (by simp [results, Try.results38, go_sem, R0, R1]) rfl ⟨?_, ((below_call bw hb1).setCell (Nat.le_refl _) _).setCell (Nat.le_refl _) _⟩
        rw [HG.out]
      · have hr : inU x = true := by simpa using hr
        by_cases h0 : k = 0
        · have HG := hid (G4 hr (by omega))
          have hk0 : decide (0 < k) = false := by simp; omega
          clear G G3 G4 hg eP h0
          go_wp2_with fail
          refine (inRange_any x _).mono ?_
          rintro e w1 ⟨rfl, hb1⟩
          rw [hr]
          obtain ⟨R0, R1, F0, F1, Q0, Q1, s2, -⟩ := after_call s1 r0 r1 f0 f1 hb1
          go_wp2
          go_quiet (fail)
          go_wp2
          go_roundw
          case rel => exact ⟨k + 1, by omega, by go_num, HG, hb.trans (below_drewN (below_up s1 hb1) _)⟩
          case measure => simp [intOf]; omega
        · have hk0 : decide (0 < k) = true := by simp; omega
          have hk1 : 0 < k := by omega
          have EP := eP (by omega)
          generalize hp : (L.getD (k - 1) (0, 0)).1 = pv at *
          clear hp
          by_cases hq : x.1 < pv
          · have HG := hid (G3 hr (by omega) hq)
            clear G G3 G4 hg eP h0
            go_wp2_with fail
            refine (inRange_any x _).mono ?_
            rintro e w1 ⟨rfl, hb1⟩
            rw [hr]
            obtain ⟨R0, R1, F0, F1, Q0, Q1, s2, A1⟩ := after_call s1 r0 r1 f0 f1 hb1
            have EP1 := (A1 b (off + (k - 1) * 2) (by omega)).trans EP
            clear A1
            go_wp2
            go_quiet (fail)
            go_wp2
            refine bodyPost_ret (v := .agg #[.int .i64 2, .int .i64 k]) (by simp [results, Try.results38, go_sem, R0, R1]) rfl ⟨?_, ((below_drewN (below_call bw hb1) _).setCell (Nat.le_refl _) _).setCell (Nat.le_refl _) _⟩
            rw [HG.out]
          · have HG := hid (G4 hr (by omega))
            clear G G3 G4 hg eP h0
            go_wp2_with fail
            refine (inRange_any x _).mono ?_
            rintro e w1 ⟨rfl, hb1⟩
            rw [hr]
            obtain ⟨R0, R1, F0, F1, Q0, Q1, s2, A1⟩ := after_call s1 r0 r1 f0 f1 hb1
            have EP1 := (A1 b (off + (k - 1) * 2) (by omega)).trans EP
            clear A1
            go_wp2
            go_quiet (fail)
            go_wp2
            go_roundw
            case rel => exact ⟨k + 1, by omega, by go_num, HG, hb.trans (below_drewN (below_up s1 hb1) _)⟩
            case measure => simp [intOf]; omega
    · have HG := hid (hg.out.done (by omega))
      clear hg
      go_wp2
      refine bodyPost_ret (v := .agg #[.int .i64 0, .int .i64 0]) (by simp [results, Try.results38, go_sem, r0, r1]) rfl ⟨?_, (bw.setCell (Nat.le_refl _) _).setCell (Nat.le_refl _) _⟩
      rw [HG.out]
end Go.Proofs.Ytdifndnogpcbkaa
