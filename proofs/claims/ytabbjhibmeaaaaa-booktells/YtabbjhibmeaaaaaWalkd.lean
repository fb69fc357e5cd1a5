/- The walk of the document's Wrong. -/
import Derived.Test.YtabbjhibmeaaaaaWalkc
namespace Go.Proofs.Ytabbjhibmeaaaaa
open Go.RowKit

set_option maxHeartbeats 1000000 in
theorem refWrong_any (a : Option Addr) (cap : Nat) (L : List (Int × Int)) (w : World) (hL : Ents w a L) :
    Calls Try.prog 7 #[.slice a L.length cap] w fun e w' => e = .returned (.agg #[.int .i64 (wrong L).1, .int .i64 (wrong L).2]) ∧ Below w.heap.size w w' := by
  obtain ⟨hm, hL⟩ := hL
  unfold maxLen at hm
  have b1 : Below w.heap.size w (w.alloc (.cells #[.int .i64 0, .int .i64 0] 25)) := (Below.refl _ _).alloc (Nat.le_refl _) _
  go_enter Try.func7, Try.ntmps7
  go_wp2
  go_loopw [3, 8] (fun t i wr => ∃ (k : Nat) (tot : Int), k ≤ L.length ∧ i = .int .i64 k ∧ t = .int .i64 tot ∧ -58000000000000 ≤ tot ∧ tot ≤ 58000000000000 ∧ Hid (Good L k tot) ∧ Below (w.heap.size + 1) (w.alloc (.cells #[.int .i64 0, .int .i64 0] 25)) wr) (fun _ i _ => L.length - (intOf i).toNat)
  case atStart => exact ⟨0, 0, Nat.zero_le _, rfl, rfl, by omega, by omega, good_zero L, Below.refl _ _⟩
  case round =>
    obtain ⟨k, tot, hk, rfl, rfl, t1, t2, hg, hb⟩ := hrel
    have s1 := hb.size
    simp only [World.size_alloc] at s1
    have bw := b1.trans (hb.mono (by omega))
    have r0 : wr.cell? ⟨w.heap.size, 0, none⟩ = some (.int .i64 0) := (hb.cell (p := ⟨w.heap.size, 0, none⟩) (by simp)).trans (by rw [World.cell?_alloc_at _ _ _ _ rfl]; rfl)
    have r1 : wr.cell? ⟨w.heap.size, 1, none⟩ = some (.int .i64 0) := (hb.cell (p := ⟨w.heap.size, 1, none⟩) (by simp)).trans (by rw [World.cell?_alloc_at _ _ _ _ rfl]; rfl)
    have f0 : wr.frozen? ⟨w.heap.size, 0, none⟩ = false := (hb.frozen (p := ⟨w.heap.size, 0, none⟩) (by simp)).trans (World.frozen?_alloc_at _ _ _ _ rfl)
    have f1 : wr.frozen? ⟨w.heap.size, 1, none⟩ = false := (hb.frozen (p := ⟨w.heap.size, 1, none⟩) (by simp)).trans (World.frozen?_alloc_at _ _ _ _ rfl)
    by_cases hlt : k < L.length
    · rcases hL with rfl | ⟨b, off, rfl, hbl, hcell⟩
      · simp at hlt
      obtain ⟨c1, c2⟩ := hcell k hlt
      have hlt' : (k : Int) < L.length := by omega
      have e1 := (bw.cell (p := ⟨b, off + k * 2, none⟩) hbl).trans c1
      have e2 := (bw.cell (p := ⟨b, off + k * 2 + 1, none⟩) hbl).trans c2
      have eP : 0 < k → wr.cell? ⟨b, off + (k - 1) * 2, none⟩ = some (.int .i64 (L.getD (k - 1) (0, 0)).1) := fun h0 => (bw.cell (p := ⟨b, off + (k - 1) * 2, none⟩) hbl).trans (hcell (k - 1) (by omega)).1
      have G := fun h => hg.out.range hlt h
      have G2 := fun h => hg.out.zero hlt h
      have G3 := fun h => hg.out.order hlt h
      have G4 := fun h => hg.out.next hlt h
      clear c1 c2 hcell
      generalize hx : L.getD k (0, 0) = x at *
      clear hx
      have hlw : w.heap.size < wr.heap.size := by omega
      have hlb : b < wr.heap.size := by omega
      have R0 : ∀ o, (wr.alloc o).cell? ⟨w.heap.size, 0, none⟩ = some (.int .i64 0) := fun o => (World.cell?_alloc_past _ _ _ hlw).trans r0
      have R1 : ∀ o, (wr.alloc o).cell? ⟨w.heap.size, 1, none⟩ = some (.int .i64 0) := fun o => (World.cell?_alloc_past _ _ _ hlw).trans r1
      have F0 : ∀ o, (wr.alloc o).frozen? ⟨w.heap.size, 0, none⟩ = false := fun o => (World.frozen?_alloc_past _ _ _ hlw).trans f0
      have F1 : ∀ o, (wr.alloc o).frozen? ⟨w.heap.size, 1, none⟩ = false := fun o => (World.frozen?_alloc_past _ _ _ hlw).trans f1
      have BW : ∀ o, Below w.heap.size w (wr.alloc o) := fun o => bw.alloc (by omega) o
      obtain ⟨x1, x2⟩ := x
      by_cases hr : inR (x1, x2) = false
      · have HG := hid (G hr)
        have ho : x1 < 0 ∨ (0 ≤ x1 ∧ 57 < x1) ∨ (0 ≤ x1 ∧ x1 ≤ 57 ∧ 1000000000000 < x2) ∨ (0 ≤ x1 ∧ x1 ≤ 57 ∧ x2 ≤ 1000000000000 ∧ x2 < -1000000000000) := by
          have hn : ¬ inR (x1, x2) = true := by simp [hr]
          rw [inR_true] at hn
          simp only at hn
          omega
        clear G G2 G3 G4 hg hr eP
        dsimp only at e1 e2
        have R0' : ∀ o, (((wr.setCell ⟨w.heap.size, 0, none⟩ (.int .i64 3)).setCell ⟨w.heap.size, 1, none⟩ (.int .i64 k)).alloc o).cell? ⟨w.heap.size, 0, none⟩ = some (.int .i64 3) := fun o => by
          rw [World.cell?_alloc_past _ _ _ (by simp; omega)]; simp [go_sem, r0]
        have R1' : ∀ o, (((wr.setCell ⟨w.heap.size, 0, none⟩ (.int .i64 3)).setCell ⟨w.heap.size, 1, none⟩ (.int .i64 k)).alloc o).cell? ⟨w.heap.size, 1, none⟩ = some (.int .i64 k) := fun o => by
          rw [World.cell?_alloc_past _ _ _ (by simp; omega)]; simp [go_sem, r1]
        rcases ho with ho | ⟨ho, ho1⟩ | ⟨ho, ho1, ho2⟩ | ⟨ho, ho1, ho2, ho3⟩
        all_goals
          go_wp2
          refine bodyPost_ret (v := .agg #[.int .i64 3, .int .i64 k]) (by simp [results, Try.results7, go_sem, R0', R1']) rfl ⟨?_, ((bw.setCell (Nat.le_refl _) _).setCell (Nat.le_refl _) _).alloc (by simp; omega) _⟩
          rw [HG.out]
      · have hr : inR (x1, x2) = true := by simpa using hr
        obtain ⟨ra, rb, rc, rd⟩ := inR_true.1 hr
        dsimp only at e1 e2 ra rb rc rd
        by_cases hz : x2 = 0
        · have HG := hid (G2 hr hz)
          have hz' : (x2 == 0) = true := by simpa using hz
          clear G G2 G3 G4 hg hz eP hr
          go_wp2
          go_quiet (fail)
          go_wp2
          refine bodyPost_ret (v := .agg #[.int .i64 2, .int .i64 k]) (by simp [results, Try.results7, go_sem, R0, R1]) rfl ⟨?_, ((below_drewN (BW _) _).setCell (Nat.le_refl _) _).setCell (Nat.le_refl _) _⟩
          rw [HG.out]
        · have hz' : (x2 == 0) = false := by simpa using hz
          by_cases h0 : k = 0
          · have HG := hid (G4 hr hz (by omega))
            have hk0 : decide (0 < k) = false := by simp; omega
            have tb1 := HG.out.lo
            have tb2 := HG.out.hi
            have hk2 := HG.out.few
            dsimp only at tb1 tb2
            have T1 : -58000000000000 ≤ tot + x2 := by omega
            have T2 : tot + x2 ≤ 58000000000000 := by omega
            clear G G2 G3 G4 hg hz eP h0 tb1 tb2 hr
            go_wp2
            go_quiet (fail)
            go_wp2
            go_roundw
            case rel => exact ⟨k + 1, tot + x2, by omega, by go_num, rfl, T1, T2, HG, hb.trans (below_drewN ((Below.refl _ _).alloc s1 _) _)⟩
            case measure => simp [intOf]; omega
          · have hk0 : decide (0 < k) = true := by simp; omega
            have hk1 : 0 < k := by omega
            have EP := eP (by omega)
            generalize hp : (L.getD (k - 1) (0, 0)).1 = pv at *
            clear hp
            have EP1 : ∀ o, (wr.alloc o).cell? ⟨b, off + (k - 1) * 2, none⟩ = some (.int .i64 pv) := fun o => (World.cell?_alloc_past _ _ _ hlb).trans EP
            by_cases hq : x1 ≤ pv
            · have HG := hid (G3 hr hz (by omega) hq)
              clear G G2 G3 G4 hg hz eP h0 hr
              go_wp2
              go_quiet (fail)
              go_wp2
              refine bodyPost_ret (v := .agg #[.int .i64 2, .int .i64 k]) (by simp [results, Try.results7, go_sem, R0, R1]) rfl ⟨?_, ((below_drewN (BW _) _).setCell (Nat.le_refl _) _).setCell (Nat.le_refl _) _⟩
              rw [HG.out]
            · have HG := hid (G4 hr hz (fun _ => by dsimp only; omega))
              have tb1 := HG.out.lo
              have tb2 := HG.out.hi
              have hk2 := HG.out.few
              dsimp only at tb1 tb2
              have T1 : -58000000000000 ≤ tot + x2 := by omega
              have T2 : tot + x2 ≤ 58000000000000 := by omega
              clear G G2 G3 G4 hg hz eP h0 tb1 tb2 hr
              go_wp2
              go_quiet (fail)
              go_wp2
              go_roundw
              case rel => exact ⟨k + 1, tot + x2, by omega, by go_num, rfl, T1, T2, HG, hb.trans (below_drewN ((Below.refl _ _).alloc s1 _) _)⟩
              case measure => simp [intOf]; omega
    · by_cases hz : tot = 0
      · have HG := hid (hg.out.done (by omega) hz)
        have hz' : (tot != 0) = false := by simpa using hz
        clear hz hg
        go_wp2
        refine bodyPost_ret (v := .agg #[.int .i64 0, .int .i64 0]) (by simp [results, Try.results7, go_sem, r0, r1]) rfl ⟨?_, (bw.setCell (Nat.le_refl _) _).setCell (Nat.le_refl _) _⟩
        rw [HG.out]
      · have HG := hid (hg.out.fit (by omega) hz)
        have hz' : (tot != 0) = true := by simpa using hz
        clear hz hg
        go_wp2
        refine bodyPost_ret (v := .agg #[.int .i64 8, .int .i64 0]) (by simp [results, Try.results7, go_sem, r0, r1]) rfl ⟨?_, (bw.setCell (Nat.le_refl _) _).setCell (Nat.le_refl _) _⟩
        rw [HG.out]
end Go.Proofs.Ytabbjhibmeaaaaa
