/- The walks of Wrong and of the document's Wrong. -/
import Derived.Test.YtabbjhibmeaaaaaWalka
import Derived.Deep.QuietTactic
import Derived.BigQuiet
namespace Go.Proofs.Ytabbjhibmeaaaaa
open Go.RowKit

theorem ret_fault {c i c' i' : Int} (h : (c, i) = (c', i')) : Ending.returned (.agg #[.int .i64 c, .int .i64 i]) = .returned (.agg #[.int .i64 c', .int .i64 i']) := by
  cases h; rfl

theorem below_call {w wr w1 : World} {o : Obj} (bw : Below w.heap.size w wr) (hb1 : Below (wr.alloc o).heap.size (wr.alloc o) w1) : Below w.heap.size w w1 :=
  bw.trans ((((Below.refl _ _).alloc (Nat.le_refl _) o).mono bw.size).trans (hb1.mono (by have := bw.size; simp; omega)))

theorem below_up {B : Nat} {wr w1 : World} {o : Obj} (s1 : B ≤ wr.heap.size) (hb1 : Below (wr.alloc o).heap.size (wr.alloc o) w1) : Below B wr w1 :=
  (((Below.refl _ _).alloc (Nat.le_refl _) o).trans (hb1.mono (by simp))).mono s1

/-- What is known behind a call that was handed a copy of an entry: the result's cells, the copy's cells, all that is elder. -/
theorem after_call {w wr w1 : World} {x : Int × Int} (s1 : w.heap.size + 1 ≤ wr.heap.size)
    (r0 : wr.cell? ⟨w.heap.size, 0, none⟩ = some (.int .i64 0)) (r1 : wr.cell? ⟨w.heap.size, 1, none⟩ = some (.int .i64 0))
    (f0 : wr.frozen? ⟨w.heap.size, 0, none⟩ = false) (f1 : wr.frozen? ⟨w.heap.size, 1, none⟩ = false)
    (hb1 : Below (wr.alloc (.cells #[.int .i64 x.1, .int .i64 x.2] 35)).heap.size (wr.alloc (.cells #[.int .i64 x.1, .int .i64 x.2] 35)) w1) :
    w1.cell? ⟨w.heap.size, 0, none⟩ = some (.int .i64 0) ∧ w1.cell? ⟨w.heap.size, 1, none⟩ = some (.int .i64 0) ∧ w1.frozen? ⟨w.heap.size, 0, none⟩ = false ∧ w1.frozen? ⟨w.heap.size, 1, none⟩ = false ∧
    w1.cell? ⟨wr.heap.size, 0, none⟩ = some (.int .i64 x.1) ∧ w1.cell? ⟨wr.heap.size, 1, none⟩ = some (.int .i64 x.2) ∧ wr.heap.size + 1 ≤ w1.heap.size ∧
    ∀ b o, b < wr.heap.size → w1.cell? ⟨b, o, none⟩ = wr.cell? ⟨b, o, none⟩ := by
  have s2 := hb1.size
  simp only [World.size_alloc] at s2
  have a1 : ∀ b o, b < wr.heap.size → w1.cell? ⟨b, o, none⟩ = wr.cell? ⟨b, o, none⟩ := fun b o h => (hb1.cell (p := ⟨b, o, none⟩) (by simp; omega)).trans (World.cell?_alloc_past _ _ _ h)
  have a2 : ∀ b o, b < wr.heap.size → w1.frozen? ⟨b, o, none⟩ = wr.frozen? ⟨b, o, none⟩ := fun b o h => (hb1.frozen (p := ⟨b, o, none⟩) (by simp; omega)).trans (World.frozen?_alloc_past _ _ _ h)
  refine ⟨(a1 _ _ (by omega)).trans r0, (a1 _ _ (by omega)).trans r1, (a2 _ _ (by omega)).trans f0, (a2 _ _ (by omega)).trans f1, ?_, ?_, s2, a1⟩
  · exact (hb1.cell (p := ⟨wr.heap.size, 0, none⟩) (by simp)).trans (by rw [World.cell?_alloc_at _ _ _ _ rfl]; rfl)
  · exact (hb1.cell (p := ⟨wr.heap.size, 1, none⟩) (by simp)).trans (by rw [World.cell?_alloc_at _ _ _ _ rfl]; rfl)

set_option maxHeartbeats 1000000 in
theorem wrong_any (a : Option Addr) (cap : Nat) (L : List (Int × Int)) (w : World) (hL : Ents w a L) :
    Calls Try.prog 6 #[.slice a L.length cap] w fun e w' => e = .returned (.agg #[.int .i64 (wrong L).1, .int .i64 (wrong L).2]) ∧ Below w.heap.size w w' := by
  obtain ⟨hm, hL⟩ := hL
  unfold maxLen at hm
  have b1 : Below w.heap.size w (w.alloc (.cells #[.int .i64 0, .int .i64 0] 25)) := (Below.refl _ _).alloc (Nat.le_refl _) _
  go_enter Try.func6, Try.ntmps6
  go_wp2
  go_loopw [3, 8] (fun t i wr => ∃ (k : Nat) (tot : Int), k ≤ L.length ∧ i = .int .i64 k ∧ t = .int .i64 tot ∧ -58000000000000 ≤ tot ∧ tot ≤ 58000000000000 ∧ Hid (Good L k tot) ∧ Below (w.heap.size + 1) (w.alloc (.cells #[.int .i64 0, .int .i64 0] 25)) wr) (fun _ i _ => L.length - (intOf i).toNat)
  case atStart => exact ⟨0, 0, Nat.zero_le _, rfl, rfl, by omega, by omega, good_zero L, Below.refl _ _⟩
  case round =>
    obtain ⟨k, tot, hk, rfl, rfl, t1, t2, hg, hb⟩ := hrel
    by_cases hlt : k < L.length
    · rcases hL with rfl | ⟨b, off, rfl, hbl, hcell⟩
      · simp at hlt
      obtain ⟨c1, c2⟩ := hcell k hlt
      have hlt' : (k : Int) < L.length := by omega
      have bw := b1.trans (hb.mono (by omega))
      have e1 := (bw.cell (p := ⟨b, off + k * 2, none⟩) hbl).trans c1
      have e2 := (bw.cell (p := ⟨b, off + k * 2 + 1, none⟩) hbl).trans c2
      have eP : 0 < k → wr.cell? ⟨b, off + (k - 1) * 2, none⟩ = some (.int .i64 (L.getD (k - 1) (0, 0)).1) := fun h0 => (bw.cell (p := ⟨b, off + (k - 1) * 2, none⟩) hbl).trans (hcell (k - 1) (by omega)).1
      have s1 := hb.size
      simp only [World.size_alloc] at s1
      have r0 : wr.cell? ⟨w.heap.size, 0, none⟩ = some (.int .i64 0) := (hb.cell (p := ⟨w.heap.size, 0, none⟩) (by simp)).trans (by rw [World.cell?_alloc_at _ _ _ _ rfl]; rfl)
      have r1 : wr.cell? ⟨w.heap.size, 1, none⟩ = some (.int .i64 0) := (hb.cell (p := ⟨w.heap.size, 1, none⟩) (by simp)).trans (by rw [World.cell?_alloc_at _ _ _ _ rfl]; rfl)
      have f0 : wr.frozen? ⟨w.heap.size, 0, none⟩ = false := (hb.frozen (p := ⟨w.heap.size, 0, none⟩) (by simp)).trans (World.frozen?_alloc_at _ _ _ _ rfl)
      have f1 : wr.frozen? ⟨w.heap.size, 1, none⟩ = false := (hb.frozen (p := ⟨w.heap.size, 1, none⟩) (by simp)).trans (World.frozen?_alloc_at _ _ _ _ rfl)
      have G := fun h => hg.out.range hlt h
      have G2 := fun h => hg.out.zero hlt h
      have G3 := fun h => hg.out.order hlt h
      have G4 := fun h => hg.out.next hlt h
      clear c1 c2 hcell
      generalize hx : L.getD k (0, 0) = x at *
      have Hx : Hid (L.getD k (0, 0) = x) := hx
      clear hx
      by_cases hr : inR x = false
      · have HG : Hid (wrong L = (3, (k : Int))) := G hr
        clear G G2 G3 G4 hg
        go_wp2_with fail
        refine (inRange_any x _).mono ?_
        rintro e w1 ⟨rfl, hb1⟩
        rw [hr]
        obtain ⟨R0, R1, F0, F1, -, -, s2, -⟩ := after_call s1 r0 r1 f0 f1 hb1
        go_wp2
        refine bodyPost_ret (v := .agg #[.int .i64 3, .int .i64 k]) (by simp [results, Try.results6, go_sem, R0, R1]) rfl ⟨?_, ((below_call bw hb1).setCell (Nat.le_refl _) _).setCell (Nat.le_refl _) _⟩
        rw [HG.out]
      · have hr : inR x = true := by simpa using hr
        by_cases hz : x.2 = 0
        · have HG : Hid (wrong L = (2, (k : Int))) := G2 hr hz
          have hz' : (x.2 == 0) = true := by simpa using hz
          clear G G2 G3 G4 hg hz eP
          go_wp2_with fail
          refine (inRange_any x _).mono ?_
          rintro e w1 ⟨rfl, hb1⟩
          rw [hr]
          obtain ⟨R0, R1, F0, F1, Q0, Q1, s2, -⟩ := after_call s1 r0 r1 f0 f1 hb1
          go_wp2
          go_quiet (fail)
          go_wp2
          refine bodyPost_ret (v := .agg #[.int .i64 2, .int .i64 k]) (by simp [results, Try.results6, go_sem, R0, R1]) rfl ⟨?_, ((below_drewN (below_call bw hb1) _).setCell (Nat.le_refl _) _).setCell (Nat.le_refl _) _⟩
          rw [HG.out]
        · have hz' : (x.2 == 0) = false := by simpa using hz
          by_cases h0 : k = 0
          · have HG := hid (G4 hr hz (by omega))
            have rb := inR_true.1 hr
            obtain ⟨-, -, rb1, rb2⟩ := rb
            have hk0 : decide (0 < k) = false := by simp; omega
            have hk1 := hg.out.few
            have tb1 := HG.out.lo
            have tb2 := HG.out.hi
            have hk2 := HG.out.few
            have T1 : -58000000000000 ≤ tot + x.2 := by omega
            have T2 : tot + x.2 ≤ 58000000000000 := by omega
            clear G G2 G3 G4 hg hz eP h0 tb1 tb2
            go_wp2_with fail
            refine (inRange_any x _).mono ?_
            rintro e w1 ⟨rfl, hb1⟩
            rw [hr]
            obtain ⟨R0, R1, F0, F1, Q0, Q1, s2, -⟩ := after_call s1 r0 r1 f0 f1 hb1
            go_wp2
            go_quiet (fail)
            go_wp2
            go_roundw
            case rel => exact ⟨k + 1, tot + x.2, by omega, by go_num, rfl, T1, T2, HG, hb.trans (below_drewN (below_up s1 hb1) _)⟩
            case measure => simp [intOf]; omega
          · have hk0 : decide (0 < k) = true := by simp; omega
            have hk1 : 0 < k := by omega
            have EP := eP (by omega)
            generalize hp : (L.getD (k - 1) (0, 0)).1 = pv at *
            clear hp
            by_cases hq : x.1 ≤ pv
            · have HG := hid (G3 hr hz (by omega) hq)
              clear G G2 G3 G4 hg hz eP h0
              go_wp2_with fail
              refine (inRange_any x _).mono ?_
              rintro e w1 ⟨rfl, hb1⟩
              rw [hr]
              obtain ⟨R0, R1, F0, F1, Q0, Q1, s2, A1⟩ := after_call s1 r0 r1 f0 f1 hb1
              have EP1 := (A1 b (off + (k - 1) * 2) (by omega)).trans EP
              clear A1
              go_wp2
              go_quiet (fail)
              go_wp2
              refine bodyPost_ret (v := .agg #[.int .i64 2, .int .i64 k]) (by simp [results, Try.results6, go_sem, R0, R1]) rfl ⟨?_, ((below_drewN (below_call bw hb1) _).setCell (Nat.le_refl _) _).setCell (Nat.le_refl _) _⟩
              rw [HG.out]
            · have HG := hid (G4 hr hz (by omega))
              obtain ⟨-, -, rb1, rb2⟩ := inR_true.1 hr
              have tb1 := HG.out.lo
              have tb2 := HG.out.hi
              have hk2 := HG.out.few
              have T1 : -58000000000000 ≤ tot + x.2 := by omega
              have T2 : tot + x.2 ≤ 58000000000000 := by omega
              clear G G2 G3 G4 hg hz eP h0 tb1 tb2
              go_wp2_with fail
              refine (inRange_any x _).mono ?_
              rintro e w1 ⟨rfl, hb1⟩
              rw [hr]
              obtain ⟨R0, R1, F0, F1, Q0, Q1, s2, A1⟩ := after_call s1 r0 r1 f0 f1 hb1
              have EP1 := (A1 b (off + (k - 1) * 2) (by omega)).trans EP
              clear A1
              go_wp2
              go_quiet (fail)
              go_wp2
              go_roundw
              case rel => exact ⟨k + 1, tot + x.2, by omega, by go_num, rfl, T1, T2, HG, hb.trans (below_drewN (below_up s1 hb1) _)⟩
              case measure => simp [intOf]; omega
    · have s1 := hb.size
      simp only [World.size_alloc] at s1
      have bw := b1.trans (hb.mono (by omega))
      have r0 : wr.cell? ⟨w.heap.size, 0, none⟩ = some (.int .i64 0) := (hb.cell (p := ⟨w.heap.size, 0, none⟩) (by simp)).trans (by rw [World.cell?_alloc_at _ _ _ _ rfl]; rfl)
      have r1 : wr.cell? ⟨w.heap.size, 1, none⟩ = some (.int .i64 0) := (hb.cell (p := ⟨w.heap.size, 1, none⟩) (by simp)).trans (by rw [World.cell?_alloc_at _ _ _ _ rfl]; rfl)
      have f0 : wr.frozen? ⟨w.heap.size, 0, none⟩ = false := (hb.frozen (p := ⟨w.heap.size, 0, none⟩) (by simp)).trans (World.frozen?_alloc_at _ _ _ _ rfl)
      have f1 : wr.frozen? ⟨w.heap.size, 1, none⟩ = false := (hb.frozen (p := ⟨w.heap.size, 1, none⟩) (by simp)).trans (World.frozen?_alloc_at _ _ _ _ rfl)
      by_cases hz : tot = 0
      · have HG := hid (hg.out.done (by omega) hz)
        have hz' : (tot != 0) = false := by simpa using hz
        clear hz hg
        go_wp2
        refine bodyPost_ret (v := .agg #[.int .i64 0, .int .i64 0]) (by simp [results, Try.results6, go_sem, r0, r1]) rfl ⟨?_, (bw.setCell (Nat.le_refl _) _).setCell (Nat.le_refl _) _⟩
        rw [HG.out]
      · have HG := hid (hg.out.fit (by omega) hz)
        have hz' : (tot != 0) = true := by simpa using hz
        clear hz hg
        go_wp2
        refine bodyPost_ret (v := .agg #[.int .i64 8, .int .i64 0]) (by simp [results, Try.results6, go_sem, r0, r1]) rfl ⟨?_, (bw.setCell (Nat.le_refl _) _).setCell (Nat.le_refl _) _⟩
        rw [HG.out]
end Go.Proofs.Ytabbjhibmeaaaaa
