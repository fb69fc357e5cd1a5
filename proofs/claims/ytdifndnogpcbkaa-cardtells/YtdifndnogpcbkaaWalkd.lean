/- The walk of the document's WrongUses. -/
import Derived.Test.YtdifndnogpcbkaaWalkc
import Derived.Test.YtdifndnogpcbkaaWalkad
namespace Go.Proofs.Ytdifndnogpcbkaa
open Go.RowKit

/-- The ways through the document's test of one use. -/
theorem inU_ways2 (x1 x2 : Int) (h : inU (x1, x2) = false) : x1 < 0 ∨ (0 ≤ x1 ∧ 1000000 < x1) ∨ (0 ≤ x1 ∧ x1 ≤ 1000000 ∧ isS x2 = false) := by
  have hn : ¬ (0 ≤ x1 ∧ x1 ≤ 1000000 ∧ 0 ≤ x2 ∧ x2 ≤ 1000000) := fun hh => by rw [inU_true.2 hh] at h; cases h
  by_cases h1 : x1 < 0
  · exact Or.inl h1
  by_cases h2 : 1000000 < x1
  · exact Or.inr (Or.inl ⟨by omega, h2⟩)
  · refine Or.inr (Or.inr ⟨by omega, by omega, ?_⟩)
    unfold isS
    simp
    omega
theorem inU_yes (x1 x2 : Int) (h : inU (x1, x2) = true) : 0 ≤ x1 ∧ x1 ≤ 1000000 ∧ isS x2 = true := by
  have hn := inU_true.1 h
  exact ⟨hn.1, hn.2.1, by unfold isS; simp; exact hn.2.2⟩

set_option maxHeartbeats 2000000 in
theorem refUses_any (a : Option Addr) (cap : Nat) (L : List (Int × Int)) (w : World) (hL : Ents w a L) :
    Calls Try.prog 39 #[.slice a L.length cap] w fun e w' => e = .returned (.agg #[.int .i64 (uses L).1, .int .i64 (uses L).2]) ∧ Below w.heap.size w w' := by
  obtain ⟨hm, hL⟩ := hL
  unfold maxLen at hm
  have b1 : Below w.heap.size w (w.alloc (.cells #[.int .i64 0, .int .i64 0] 25)) := (Below.refl _ _).alloc (Nat.le_refl _) _
  by_cases hf : 30 < L.length
  · have HG := hid (uses_many hf)
    have hf' : (30 : Int) < L.length := by omega
    go_enter Try.func39, Try.ntmps39
    go_wp2
    refine bodyPost_ret (v := .agg #[.int .i64 5, .int .i64 0]) (by simp [results, Try.results39, go_sem]; try rfl) rfl ⟨?_, ?_⟩
    · rw [HG.out]
    · first | exact (Below.refl _ _).alloc (Nat.le_refl _) _ | exact (b1.setCell (Nat.le_refl _) _).setCell (Nat.le_refl _) _
  have hf0 : L.length ≤ 30 := by omega
  have hf' : (L.length : Int) ≤ 30 := by omega
  clear hf
  go_enter Try.func39, Try.ntmps39
  go_wp2
  go_loopw [11] (fun i wr => ∃ (k : Nat), k ≤ L.length ∧ i = .int .i64 k ∧ Hid (Good L k) ∧ Below (w.heap.size + 1) (w.alloc (.cells #[.int .i64 0, .int .i64 0] 25)) wr) (fun i _ => L.length - (intOf i).toNat)
  case atStart => exact ⟨0, Nat.zero_le _, rfl, good_zero hf0, Below.refl _ _⟩
  case round =>
    obtain ⟨k, hk, rfl, hg, hb⟩ := hrel
    have s1 := hb.size
    simp only [World.size_alloc] at s1
    have bw := b1.trans (hb.mono (by omega))
    obtain ⟨r0, r1, f0, f1⟩ := fault_cells hb
    by_cases hlt : k < L.length
    · rcases hL with rfl | ⟨b, off, rfl, hbl, hcell⟩
      · simp at hlt
      obtain ⟨c1, c2⟩ := hcell k hlt
      have hlt' : (k : Int) < L.length := by omega
      have e1 := (bw.cell (p := ⟨b, off + k * 2, none⟩) hbl).trans c1
      have e2 := (bw.cell (p := ⟨b, off + k * 2 + 1, none⟩) hbl).trans c2
      have eP : 0 < k → wr.cell? ⟨b, off + (k - 1) * 2, none⟩ = some (.int .i64 (L.getD (k - 1) (0, 0)).1) := fun h0 => (bw.cell (p := ⟨b, off + (k - 1) * 2, none⟩) hbl).trans (hcell (k - 1) (by omega)).1
      have G := fun h => hg.out.range hlt h
      have G3 := fun h => hg.out.order hlt h
      have G4 := fun h => hg.out.next hlt h
      clear c1 c2 hcell
      generalize hx : L.getD k (0, 0) = x at *
      clear hx
      have hlw : w.heap.size < wr.heap.size := by omega
      have hlb : b < wr.heap.size := by omega
      have R0 : ∀ o, (wr.alloc o).cell? ⟨w.heap.size, 0, none⟩ = some (.int .i64 0) := fun o => (World.cell?_alloc_past _ _ _ hlw).trans r0
      have R1 : ∀ o, (wr.alloc o).cell? ⟨w.heap.size, 1, none⟩ = some (.int .i64 0) := fun o => (World.cell?_alloc_past _ _ _ hlw).trans r1
      have F0 : ∀ o, (wr.alloc o).frozen? ⟨w.heap.size, 0, none⟩ = false := fun o => (World.frozen?_alloc_past _ _ _ hlw).trans f0
      have F1 : ∀ o, (wr.alloc o).frozen? ⟨w.heap.size, 1, none⟩ = false := fun o => (World.frozen?_alloc_past _ _ _ hlw).trans f1
      have S0 : ∀ v u o, (((wr.setCell ⟨w.heap.size, 0, none⟩ v).setCell ⟨w.heap.size, 1, none⟩ u).alloc o).cell? ⟨w.heap.size, 0, none⟩ = some v := fun v u o => by
        rw [World.cell?_alloc_past _ _ _ (by simp; omega)]; simp [go_sem, r0]
      have S1 : ∀ v u o, (((wr.setCell ⟨w.heap.size, 0, none⟩ v).setCell ⟨w.heap.size, 1, none⟩ u).alloc o).cell? ⟨w.heap.size, 1, none⟩ = some u := fun v u o => by
        rw [World.cell?_alloc_past _ _ _ (by simp; omega)]; simp [go_sem, r1]
      have BW : ∀ o, Below w.heap.size w (wr.alloc o) := fun o => bw.alloc (by omega) o
      obtain ⟨x1, x2⟩ := x
      dsimp only at e1 e2
      by_cases hr : inU (x1, x2) = false
      · have HG := hid (G hr)
        have ho := inU_ways2 x1 x2 hr
        clear G G3 G4 hg hr eP
        rcases ho with h1 | ⟨h1, h2⟩ | ⟨h1, h2, h3⟩
        all_goals
          go_wp2_with (go_at_call 64; refine (refSum_any _ _).mono ?_; rintro e w' ⟨rfl, rfl⟩)
          refine bodyPost_ret (v := .agg #[.int .i64 3, .int .i64 k]) (by simp [results, Try.results39, go_sem, S0, S1]; try rfl) rfl ⟨?_, ?_⟩
          · rw [HG.out]
          · first | exact ((BW _).setCell (Nat.le_refl _) _).setCell (Nat.le_refl _) _ | exact ((bw.setCell (Nat.le_refl _) _).setCell (Nat.le_refl _) _).alloc (by simp; omega) _
      · have hr : inU (x1, x2) = true := by simpa using hr
        obtain ⟨h1, h2, h3⟩ := inU_yes x1 x2 hr
        by_cases h0 : k = 0
        · have HG := hid (G4 hr (by omega))
          have hk0 : decide (0 < k) = false := by simp; omega
          clear G G3 G4 hg eP h0 hr
          go_wp2_with (go_at_call 64; refine (refSum_any _ _).mono ?_; rintro e w' ⟨rfl, rfl⟩)
          go_quiet (fail)
          go_wp2
          go_roundw
          case rel => exact ⟨k + 1, by omega, by go_num, HG, hb.trans (below_drewN ((Below.refl _ _).alloc (by omega) _) _)⟩
          case measure => simp [intOf]; omega
        · have hk0 : decide (0 < k) = true := by simp; omega
          have hk1 : 0 < k := by omega
          have EP := eP (by omega)
          generalize hp : (L.getD (k - 1) (0, 0)).1 = pv at *
          clear hp
          have EP1 : ∀ o, (wr.alloc o).cell? ⟨b, off + (k - 1) * 2, none⟩ = some (.int .i64 pv) := fun o => (World.cell?_alloc_past _ _ _ hlb).trans EP
          by_cases hq : x1 < pv
          · have HG := hid (G3 hr (by omega) hq)
            clear G G3 G4 hg eP h0 hr
            go_wp2_with (go_at_call 64; refine (refSum_any _ _).mono ?_; rintro e w' ⟨rfl, rfl⟩)
            go_quiet (fail)
            go_wp2
            refine bodyPost_ret (v := .agg #[.int .i64 2, .int .i64 k]) (by simp [results, Try.results39, go_sem, R0, R1]; try rfl) rfl ⟨?_, ?_⟩
            · rw [HG.out]
            · first | exact ((below_drewN (BW _) _).setCell (Nat.le_refl _) _).setCell (Nat.le_refl _) _ | exact below_drewN (((bw.setCell (Nat.le_refl _) _).setCell (Nat.le_refl _) _).alloc (by simp; omega) _) _
          · have HG := hid (G4 hr (fun _ => by simpa using hq))
            have hq2 : pv ≤ x1 := by omega
            clear G G3 G4 hg eP h0 hr hq
            go_wp2_with (go_at_call 64; refine (refSum_any _ _).mono ?_; rintro e w' ⟨rfl, rfl⟩)
            go_quiet (fail)
            go_wp2
            go_roundw
            case rel => exact ⟨k + 1, by omega, by go_num, HG, hb.trans (below_drewN ((Below.refl _ _).alloc (by omega) _) _)⟩
            case measure => simp [intOf]; omega
    · have HG := hid (hg.out.done (by omega))
      clear hg
      go_wp2
      refine bodyPost_ret (v := .agg #[.int .i64 0, .int .i64 0]) (by simp [results, Try.results39, go_sem, r0, r1]) rfl ⟨?_, (bw.setCell (Nat.le_refl _) _).setCell (Nat.le_refl _) _⟩
      rw [HG.out]
end Go.Proofs.Ytdifndnogpcbkaa
