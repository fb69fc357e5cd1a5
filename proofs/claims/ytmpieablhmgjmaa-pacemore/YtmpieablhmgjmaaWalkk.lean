/- The walk of the law PaceMore. -/
import Derived.Test.YtmpieablhmgjmaaWalkj
import Derived.Test.YtmpieablhmgjmaaWalki
namespace Go.Proofs.Ytmpieablhmgjmaa
open Go.RowKit

/-- The wider pace. -/
def wide (p : Pa) (c s : Int) : Pa := ⟨p.t, if p.c < c then c else p.c, if p.s < s then s else p.s⟩

set_option maxHeartbeats 4000000 in
theorem more_any (p : Pa) (c s : Int) (a : Option Addr) (cap : Nat) (L : List (Int × Int)) (x : Int × Int) (w : World) (hL : Ents w a L) :
    Calls Try.prog 13 #[pv p, .int .i64 c, .int .i64 s, .slice a L.length cap, uv x] w fun e w' => e = .returned (.bool true) ∧ Below w.heap.size w w' := by
  unfold pv uv
  go_enter Try.func13, Try.ntmps13
  go_wp2_with fail
  refine (alive_any _).mono ?_
  rintro e w1 ⟨rfl, hb1⟩
  obtain ⟨bb, hs1, hp1, hx1⟩ := boxes hb1
  have S1 : St w p x a L w1 := ⟨bb, hs1, hp1, hx1, hL.below bb⟩
  clear hL hb1 bb hs1 hp1 hx1
  obtain ⟨P0, P1, P2⟩ := pace_cells S1.pace
  go_upto_region 4 with fail
  go_cut [] from 19 to 28 (fun wc => St w p x a L wc ∧ wc.heap[w1.heap.size]? = some (.cells #[.int .i64 (wide p c s).t, .int .i64 (wide p c s).c, .int .i64 (wide p c s).s] 55))
  case first =>
    have S2 := fun o => S1.on (below_alloc w1 o)
    have P3 := fun o => (pace_cells (S2 o).pace).1
    have P4 := fun o => (pace_cells (S2 o).pace).2.1
    have P5 := fun o => (pace_cells (S2 o).pace).2.2
    have HS := hid S2
    clear S2
    go_region
    all_goals (go_wp2_with fail)
    all_goals (go_meet; refine ⟨(HS.out _).on ((Below.refl _ _).drew), (heap_alloc_at w1 _ _ rfl).trans ?_⟩)
    all_goals (simp only [wide]; (repeat' split) <;> first | rfl | (exfalso; omega))
  case rest =>
    obtain ⟨S2, hq2⟩ := hcut
    clear S1 P0 P1 P2
    generalize wc = w2 at *
    have HM : Hid ((addU p L x).2 = 0 → wrongP (wide p c s) = 0 → addU (wide p c s) L x = addU p L x) := hid fun h1 h2 => addU_more h1 h2 rfl (by unfold wide; dsimp only; split <;> omega) (by unfold wide; dsimp only; split <;> omega)
    generalize wide p c s = q at *
    have hlq := lt_of_block hq2
    generalize w1.heap.size = B at *
    obtain ⟨P0, P1, P2⟩ := pace_cells S2.pace
    obtain ⟨X0, X1⟩ := use_cells S2.use
    go_wp2_with fail
    refine (add_any p a cap L x _ S2.ents).mono ?_
    intro e w3 hA
    obtain ⟨a3, cap3, rfl, hE3, hb3⟩ := hA.read
    have S3 := S2.on hb3
    have hq3 := (hb3.block _ hlq).trans hq2
    have hlq3 := lt_of_block hq3
    clear hA P0 P1 P2 X0 X1 S2 hq2 hb3
    obtain ⟨Q0, Q1, Q2⟩ := pace_cells hq3
    obtain ⟨X0, X1⟩ := use_cells S3.use
    go_wp2_with fail
    refine (add_any q a cap L x _ S3.ents).mono ?_
    intro e w4 hA
    obtain ⟨a4, cap4, rfl, hE4, hb4⟩ := hA.read
    have S4 := S3.on hb4
    have hq4 := (hb4.block _ hlq3).trans hq3
    have hE3' := hE3.below hb4
    clear hA Q0 Q1 Q2 X0 X1 S3 hq3 hb4 hE3
    obtain ⟨Q0, Q1, Q2⟩ := pace_cells hq4
    have bb4 := S4.bel
    by_cases h1 : (addU p L x).2 = 0
    rotate_left
    · have hne : ((addU p L x).2 != 0) = true := by simpa using h1
      clear h1
      generalize (addU p L x).2 = r1 at *
      generalize (addU p L x).1 = r2 at *
      go_wp2
      go_ret
      exact ⟨rfl, bb4⟩
    have hne : ((addU p L x).2 != 0) = false := by simpa using h1
    by_cases h2 : wrongP q = 0
    rotate_left
    · have hne2 : (wrongP q != 0) = true := by simpa using h2
      clear h1 h2
      generalize (addU p L x).2 = r1 at *
      generalize (addU p L x).1 = r2 at *
      go_wp2_with (go_at_call 35; refine (wrong_any q _).mono ?_; rintro e w5 ⟨rfl, hb5⟩)
      go_ret
      exact ⟨rfl, bb4.trans (hb5.mono bb4.size)⟩
    have hne2 : (wrongP q != 0) = false := by simpa using h2
    have he := HM.out h1 h2
    rw [he] at hE4
    rw [he, h1]
    rw [h1] at hne
    clear h1 h2 he HM
    generalize (addU p L x).1 = R at *
    go_wp2_with (first
      | (go_at_call 35; refine (wrong_any q _).mono ?_; rintro e w5 ⟨rfl, hb5⟩)
      | (go_at_call 39; refine (same_any a3 cap3 R a4 cap4 _ (hE3'.below hb5) (hE4.below hb5)).mono ?_; rintro e w6 ⟨rfl, hb6⟩))
    go_ret
    have b5 := bb4.trans (hb5.mono bb4.size)
    exact ⟨rfl, b5.trans (hb6.mono b5.size)⟩
end Go.Proofs.Ytmpieablhmgjmaa
