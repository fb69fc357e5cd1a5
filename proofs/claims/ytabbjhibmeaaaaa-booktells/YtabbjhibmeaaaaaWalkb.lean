/- The walks of Get and of the document's Get. -/
import Derived.Test.YtabbjhibmeaaaaaWalka
namespace Go.Proofs.Ytabbjhibmeaaaaa
open Go.RowKit

set_option maxHeartbeats 400000 in
theorem get_any (a : Option Addr) (cap : Nat) (L : List (Int × Int)) (acc : Int) (w : World) (hL : Ents w a L) :
    Calls Try.prog 8 #[.slice a L.length cap, .int .i64 acc] w fun e w' => e = .returned (.int .i64 (getE L acc)) ∧ Below w.heap.size w w' := by
  have hmf : ∀ (fn : Fn) (first cap : Array Value) (w : World), (Instr.makeFunc fn first cap).run Try.prog w = .ok (.func fn first cap) w := fun _ _ _ _ => rfl
  have b1 : Below w.heap.size w (w.alloc (.cells #[.int .i64 acc] 3)) := (Below.refl _ _).alloc (Nat.le_refl _) _
  have hL1 := hL.below b1
  have hc1 : (w.alloc (.cells #[.int .i64 acc] 3)).cell? ⟨w.heap.size, 0, none⟩ = some (.int .i64 acc) := by
    rw [World.cell?_alloc_at _ _ _ _ rfl]; rfl
  obtain ⟨hm, hL2⟩ := hL
  unfold maxLen at hm
  go_enter Try.func8, Try.ntmps8
  go_wp2_with fail
  refine (indexFunc_any a cap L w.heap.size acc _ hL1 hc1 (by simp)).mono ?_
  rintro e w1 ⟨r, rfl, hb, hr⟩
  have bb := b1.trans (hb.mono (by simp))
  rcases hr with ⟨rfl, hno⟩ | ⟨k, rfl, hlt, hq, hno⟩
  · have HG : Hid (getE L acc = 0) := getE_none hno
    clear hno hL1 hL2
    go_wp2
    go_ret
    exact ⟨ret_int HG.out.symm, bb⟩
  · have HG : Hid (getE L acc = (L.getD k (0, 0)).2) := getE_first hlt hno hq
    rcases hL2 with rfl | ⟨b, off, rfl, hbl, hcell⟩
    · simp at hlt
    obtain ⟨c1, c2⟩ := hcell k hlt
    have hlt' : (k : Int) < L.length := by omega
    have e2 := (bb.cell (p := ⟨b, off + k * 2 + 1, none⟩) hbl).trans c2
    clear c1 c2 hcell hno hq hL1
    generalize (L.getD k (0, 0)).2 = x2 at *
    go_wp2
    go_ret
    exact ⟨ret_int HG.out.symm, bb⟩

set_option maxHeartbeats 400000 in
theorem refGet_any (a : Option Addr) (cap : Nat) (L : List (Int × Int)) (acc : Int) (w : World) (hL : Ents w a L) :
    Calls Try.prog 9 #[.slice a L.length cap, .int .i64 acc] w fun e w' => e = .returned (.int .i64 (getE L acc)) ∧ w' = w := by
  obtain ⟨hm, hL⟩ := hL
  unfold maxLen at hm
  go_enter Try.func9, Try.ntmps9
  go_wp2
  go_loop [5, 6] (fun n i => ∃ k : Nat, k ≤ L.length ∧ i = .int .i64 ((k : Int) - 1) ∧ n = .int .i64 (getE (L.drop k) acc)) (fun _ i => (intOf i + 1).toNat)
  case atStart => exact ⟨L.length, Nat.le_refl _, rfl, by simp [getE]⟩
  case round =>
    obtain ⟨k, hk, rfl, rfl⟩ := hrel
    cases k with
    | zero =>
      go_wp2
      go_ret
      exact ⟨rfl, rfl⟩
    | succ k =>
      rcases hL with rfl | ⟨b, off, rfl, hbl, hcell⟩
      · simp at hk
      obtain ⟨c1, c2⟩ := hcell k (by omega)
      have HG : Hid (getE (L.drop k) acc = if (L.getD k (0, 0)).1 = acc then (L.getD k (0, 0)).2 else getE (L.drop (k + 1)) acc) := getE_drop (by omega)
      rw [show (((k + 1 : Nat) : Int) - 1) = (k : Int) by omega]
      clear hcell
      generalize getE (L.drop (k + 1)) acc = y at *
      generalize (L.getD k (0, 0)).1 = x1 at *
      generalize (L.getD k (0, 0)).2 = x2 at *
      have hlt' : (k : Int) < L.length := by omega
      by_cases hq : x1 = acc
      · have hq' : (x1 == acc) = true := by simpa using hq
        have Hq : Hid (x1 = acc) := hq
        clear hq
        go_wp2
        go_round
        case rel => exact ⟨k, by omega, rfl, by rw [HG.out, if_pos Hq.out]⟩
        case measure => simp [intOf]
      · have hq' : (x1 == acc) = false := by simpa using hq
        have Hq : Hid (¬ x1 = acc) := hq
        clear hq
        go_wp2
        go_round
        case rel => exact ⟨k, by omega, rfl, by rw [HG.out, if_neg Hq.out]⟩
        case measure => simp [intOf]
end Go.Proofs.Ytabbjhibmeaaaaa
