/- The walk of wrongEntries. -/
import Derived.Test.YtabbjhibmeaaaaaWalke
namespace Go.Proofs.Ytabbjhibmeaaaaa
open Go.RowKit

set_option maxHeartbeats 1000000 in
theorem wrongEntries_any (a : Option Addr) (cap : Nat) (L : List (Int × Int)) (w : World) (hL : Ents w a L) :
    Calls Try.prog 19 #[.slice a L.length cap] w fun e w' => e = .returned (.int .i64 (wrongEs L)) ∧ Below w.heap.size w w' := by
  obtain ⟨hm, hL⟩ := hL
  unfold maxLen at hm
  by_cases hf : 10 < L.length
  · have HG := hid (wrongEs_many hf)
    have hf' : (10 : Int) < L.length := by omega
    go_enter Try.func19, Try.ntmps19
    go_wp2
    go_ret
    exact ⟨ret_int HG.out.symm, Below.refl _ _⟩
  have HE := hid (wrongEs_few (E := L) (by omega))
  have hf' : (L.length : Int) ≤ 10 := by omega
  go_enter Try.func19, Try.ntmps19
  go_wp2
  go_loopw [3, 11] (fun t i wr => ∃ (k : Nat) (tot : Int), k ≤ L.length ∧ i = .int .i64 k ∧ t = .int .i64 tot ∧ -10000000000000 ≤ tot ∧ tot ≤ 10000000000000 ∧ Hid (GoodE L k tot) ∧ Below w.heap.size w wr) (fun _ i _ => L.length - (intOf i).toNat)
  case atStart => exact ⟨0, 0, Nat.zero_le _, rfl, rfl, by omega, by omega, goodE_zero L, Below.refl _ _⟩
  case round =>
    obtain ⟨k, tot, hk, rfl, rfl, t1, t2, hg, hb⟩ := hrel
    by_cases hlt : k < L.length
    · rcases hL with rfl | ⟨b, off, rfl, hbl, hcell⟩
      · simp at hlt
      obtain ⟨c1, c2⟩ := hcell k hlt
      have hlt' : (k : Int) < L.length := by omega
      have e1 := (hb.cell (p := ⟨b, off + k * 2, none⟩) hbl).trans c1
      have e2 := (hb.cell (p := ⟨b, off + k * 2 + 1, none⟩) hbl).trans c2
      have s1 := hb.size
      have G := fun h => hg.out.range hlt h
      have G4 := fun h => hg.out.next hlt h
      clear c1 c2 hcell
      generalize hx : L.getD k (0, 0) = x at *
      clear hx
      by_cases hr : inR x = false
      · have HG := hid (G hr)
        clear G G4 hg
        go_wp2_with fail
        refine (inRange_any x _).mono ?_
        rintro e w1 ⟨rfl, hb1⟩
        rw [hr]
        go_wp2
        go_ret
        exact ⟨ret_int (by rw [HE.out, HG.out]), hb.trans (below_up s1 hb1)⟩
      · have hr : inR x = true := by simpa using hr
        have HG := hid (G4 hr)
        obtain ⟨-, -, rb1, rb2⟩ := inR_true.1 hr
        have tb1 := HG.out.lo
        have tb2 := HG.out.hi
        have T1 : -10000000000000 ≤ tot + x.2 := by omega
        have T2 : tot + x.2 ≤ 10000000000000 := by omega
        clear G G4 hg tb1 tb2
        go_wp2_with fail
        refine (inRange_any x _).mono ?_
        rintro e w1 ⟨rfl, hb1⟩
        rw [hr]
        have q1 : w1.cell? ⟨wr.heap.size, 1, none⟩ = some (.int .i64 x.2) := (hb1.cell (p := ⟨wr.heap.size, 1, none⟩) (by simp)).trans (by rw [World.cell?_alloc_at _ _ _ _ rfl]; rfl)
        go_wp2
        go_roundw
        case rel => exact ⟨k + 1, tot + x.2, by omega, by go_num, rfl, T1, T2, HG, hb.trans (below_up s1 hb1)⟩
        case measure => simp [intOf]; omega
    · by_cases hz : tot = 0
      · have HG := hid (hg.out.done (by omega) hz)
        have hz' : (tot != 0) = false := by simpa using hz
        clear hz hg
        go_wp2
        go_ret
        exact ⟨ret_int (by rw [HE.out, HG.out]), hb⟩
      · have HG := hid (hg.out.fit (by omega) hz)
        have hz' : (tot != 0) = true := by simpa using hz
        clear hz hg
        go_wp2
        go_ret
        exact ⟨ret_int (by rw [HE.out, HG.out]), hb⟩
end Go.Proofs.Ytabbjhibmeaaaaa
