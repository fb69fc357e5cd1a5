/- The walk of the law CardSpends. -/
import Derived.Test.YtdifndnogpcbkabCardg
import Derived.Deep.RegionHeld3
namespace Go.Proofs.Ytdifndnogpcbkab
open Go.RowKit

/-- What the last line holds on to: the card that came in, the card that went out. -/
structure Pair (w : World) (c : Ca) (a : Option Addr) (cap : Nat) (B : Nat) (x : Ca) (a2 : Option Addr) (cap2 : Nat) (W : World) : Prop where
  one : One w c a cap W
  out : CardAt W B x a2 cap2

theorem Pair.on {w W W' : World} {c : Ca} {a : Option Addr} {cap : Nat} {B : Nat} {x : Ca} {a2 : Option Addr} {cap2 : Nat} (h : Pair w c a cap B x a2 cap2 W) (hb : Below W.heap.size W W') : Pair w c a cap B x a2 cap2 W' := ⟨h.one.on hb, h.out.on hb⟩
theorem Pair.same {w W W' : World} {c : Ca} {a : Option Addr} {cap : Nat} {B : Nat} {x : Ca} {a2 : Option Addr} {cap2 : Nat} (h : Pair w c a cap B x a2 cap2 W) (e1 : W'.heap = W.heap) (e2 : W'.os = W.os) (e3 : W'.tape = W.tape) (e4 : W'.output = W.output) : Pair w c a cap B x a2 cap2 W' :=
  h.on ⟨e2, e3, e4, by rw [e1]; exact Nat.le_refl _, fun k _ => by rw [e1]⟩
theorem Pair.call {w W W' w1 : World} {c : Ca} {a : Option Addr} {cap : Nat} {B : Nat} {x : Ca} {a2 : Option Addr} {cap2 : Nat} (hb : Below W'.heap.size W' w1) (h : Pair w c a cap B x a2 cap2 W) (e1 : W'.heap = W.heap) (e2 : W'.os = W.os) (e3 : W'.tape = W.tape) (e4 : W'.output = W.output) : Pair w c a cap B x a2 cap2 w1 :=
  (h.same e1 e2 e3 e4).on hb

theorem Pair.lies {w W W' : World} {c : Ca} {a : Option Addr} {cap : Nat} {B : Nat} {x : Ca} {a2 : Option Addr} {cap2 : Nat} (h : Pair w c a cap B x a2 cap2 W) (e1 : W'.heap = W.heap) (e2 : W'.os = W.os) (e3 : W'.tape = W.tape) (e4 : W'.output = W.output) : Lies W' a2 cap2 x.u :=
  (h.same e1 e2 e3 e4).out.lies
theorem Pair.bel {w W W' : World} {c : Ca} {a : Option Addr} {cap : Nat} {B : Nat} {x : Ca} {a2 : Option Addr} {cap2 : Nat} (h : Pair w c a cap B x a2 cap2 W) (e1 : W'.heap = W.heap) (e2 : W'.os = W.os) (e3 : W'.tape = W.tape) (e4 : W'.output = W.output) : Below w.heap.size w W' :=
  (h.same e1 e2 e3 e4).one.bel

/-- The cells that the last line reads over and over. -/
theorem Pair.held {w W : World} {c : Ca} {a : Option Addr} {cap : Nat} {B : Nat} {x : Ca} {a2 : Option Addr} {cap2 : Nat} (h : Pair w c a cap B x a2 cap2 W) :
    W.cell? ⟨w.heap.size, 0, none⟩ = some (.int .i64 c.m) ∧ W.cell? ⟨w.heap.size, 1, none⟩ = some (.int .i64 c.h) ∧ W.cell? ⟨w.heap.size, 2, none⟩ = some (.int .i64 c.p.t) ∧ W.cell? ⟨w.heap.size, 3, none⟩ = some (.int .i64 c.p.c) ∧
    W.cell? ⟨w.heap.size, 4, none⟩ = some (.int .i64 c.p.s) ∧ W.cell? ⟨w.heap.size, 5, none⟩ = some (.slice a c.u.length cap) ∧
    W.cell? ⟨B, 0, none⟩ = some (.int .i64 x.m) ∧ W.cell? ⟨B, 1, none⟩ = some (.int .i64 x.h) ∧ W.cell? ⟨B, 2, none⟩ = some (.int .i64 x.p.t) ∧ W.cell? ⟨B, 3, none⟩ = some (.int .i64 x.p.c) ∧
    W.cell? ⟨B, 4, none⟩ = some (.int .i64 x.p.s) ∧ W.cell? ⟨B, 5, none⟩ = some (.slice a2 x.u.length cap2) := by
  obtain ⟨h0, h1, h2, h3, h4, h5⟩ := h.one.box.cells
  obtain ⟨k0, k1, k2, k3, k4, k5⟩ := h.out.cells
  exact ⟨h0, h1, h2, h3, h4, h5, k0, k1, k2, k3, k4, k5⟩

theorem cwrong_at (c : Ca) (hc : wrongC c = 0) (a : Option Addr) (cap : Nat) (w : World) (hL : Lies w a cap c.u) :
    Calls Try.prog 10 #[cv c a cap] w fun e w' => e = .returned (.int .i64 0) ∧ Below w.heap.size w w' := by
  rw [← hc]
  exact cwrong_any c a cap w hL

theorem wrap64 {n : Int} (h1 : -9223372036854775808 ≤ n) (h2 : n ≤ 9223372036854775807) : IntKind.i64.wrap n = n := by
  simp [IntKind.wrap, IntKind.bits, IntKind.signed]
  omega

theorem free_at (c : Ca) (v : Int) (a : Option Addr) (cap : Nat) (w : World) (h1 : -1000000000000 ≤ c.m) (h2 : c.m ≤ 1000000000000) (h3 : 0 ≤ c.h) (h4 : c.h ≤ 1000000000000) (hv : c.m - c.h = v) :
    Calls Try.prog 9 #[cv c a cap] w fun e w' => e = .returned (.int .i64 v) ∧ Below w.heap.size w w' := by
  subst hv
  exact free_any c a cap w h1 h2 h3 h4

set_option maxRecDepth 100000 in
set_option maxHeartbeats 8000000 in
theorem spends_any (c : Ca) (a : Option Addr) (cap : Nat) (s t : Int) (w : World) (hL : Lies w a cap c.u) :
    Calls Try.prog 3 #[cv c a cap, .int .i64 s, .int .i64 t] w fun e w' => e = .returned (.bool true) ∧ Below w.heap.size w w' := by
  have I0 := one_new hL
  unfold cv
  go_enter Try.func3, Try.ntmps3
  go_wp2_with fail
  refine (alive_any _).mono ?_
  rintro e w1 ⟨rfl, hb1⟩
  have I1 := I0.on hb1
  clear I0 hb1
  obtain ⟨C0, C1, C2, C3, C4, C5⟩ := I1.box.cells
  go_wp2_with fail
  refine (allow_any c a cap s t _ I1.box.lies).mono ?_
  rintro e w2 ⟨a2, cap2, rfl, hl2, hb2⟩
  have I2 := I1.on hb2
  clear C0 C1 C2 C3 C4 C5 I1 hb2
  unfold cv
  by_cases h0 : (allowC c s t).2 = 0
  rotate_left
  · have hne : ((allowC c s t).2 != 0) = true := by simpa using h0
    obtain ⟨hz, hf⟩ := allow_not h0
    clear h0
    rw [hz] at hl2 ⊢
    have HL2 := hid (hl2.below (below_alloc w2 (co zeroC a2 cap2)))
    by_cases h10 : (allowC c s t).2 = 10
    · obtain ⟨R, hlt⟩ := hf h10
      rw [h10]
      have m1 := R.h1
      have m2 := R.h2
      have m3 := R.m1
      have m4 := R.m2
      have hlt' : c.m - c.h < s := by omega
      clear R hf hne h10 hz
      go_wp2_with fail
      refine (sameC_any zeroC a2 cap2 none 0 _ HL2.out (lies_nil _)).mono ?_
      rintro e w3 ⟨rfl, hb3⟩
      have I3 := (I2.alloc _).on hb3
      clear I2 hb3
      obtain ⟨C0, C1, C2, C3, C4, C5⟩ := I3.box.cells
      go_wp2_with fail
      refine (free_any c a cap _ m3 m4 m1 m2).mono ?_
      rintro e w4 ⟨rfl, hb4⟩
      go_wp2
      go_ret
      exact ⟨rfl, (I3.on hb4).bel⟩
    · have hne2 : ((allowC c s t).2 != 10) = true := by simpa using h10
      clear hf h10 hz
      generalize (allowC c s t).2 = r at *
      go_wp2_with (go_at_call 8; refine (sameC_any zeroC a2 cap2 none 0 _ HL2.out (lies_nil _)).mono ?_; rintro e w3 ⟨rfl, hb3⟩)
      go_ret
      exact ⟨rfl, ((I2.alloc _).on hb3).bel⟩
  have hne : ((allowC c s t).2 != 0) = false := by simpa using h0
  obtain ⟨R, s1, s2, hle, hw0, hxm, hxh⟩ := allow_zero h0
  clear h0
  generalize (allowC c s t).2 = r at *
  generalize (allowC c s t).1 = x at *
  have m1 := R.h1
  have m2 := R.h2
  have m3 := R.m1
  have m4 := R.m2
  clear R
  obtain ⟨m, h, p, u⟩ := c
  obtain ⟨xm, xh, xp, xu⟩ := x
  dsimp only at *
  subst hxm
  have hI : Pair w ⟨xm, h, p, u⟩ a cap w2.heap.size ⟨xm, xh, xp, xu⟩ a2 cap2 (w2.alloc (co ⟨xm, xh, xp, xu⟩ a2 cap2)) := ⟨I2.alloc _, card_new w2 _ _ _ hl2⟩
  obtain ⟨f, hf⟩ : ∃ f, xm - h = f := ⟨_, rfl⟩
  have hf2 : xm - xh = f - s := by omega
  have hs1 : s ≤ f := by omega
  have hs2 : 0 ≤ f - s := by omega
  have x3 : 0 ≤ xh := by omega
  have x4 : xh ≤ 1000000000000 := by omega
  have HW := hid hw0
  have f1 : -2000000000000 ≤ f := by omega
  have f2 : f ≤ 2000000000000 := by omega
  have hwr : IntKind.i64.wrap (f - s) = f - s := wrap64 (by omega) (by omega)
  have HF := hid hf
  have HF2 := hid hf2
  clear I2 hl2 hw0 hle hxh hf hf2
  go_upto_region 6 with fail
  unfold co at hI
  dsimp only at hI
  generalize w2.alloc _ = w3 at *
  generalize w2.heap.size = B at *
  go_region_held3 (fun w' => w'.cell? ⟨w.heap.size, 0, none⟩ = some (.int .i64 xm) ∧ w'.cell? ⟨w.heap.size, 1, none⟩ = some (.int .i64 h) ∧ w'.cell? ⟨w.heap.size, 2, none⟩ = some (.int .i64 p.t) ∧ w'.cell? ⟨w.heap.size, 3, none⟩ = some (.int .i64 p.c) ∧
      w'.cell? ⟨w.heap.size, 4, none⟩ = some (.int .i64 p.s) ∧ w'.cell? ⟨w.heap.size, 5, none⟩ = some (.slice a u.length cap) ∧
      w'.cell? ⟨B, 0, none⟩ = some (.int .i64 xm) ∧ w'.cell? ⟨B, 1, none⟩ = some (.int .i64 xh) ∧ w'.cell? ⟨B, 2, none⟩ = some (.int .i64 xp.t) ∧ w'.cell? ⟨B, 3, none⟩ = some (.int .i64 xp.c) ∧
      w'.cell? ⟨B, 4, none⟩ = some (.int .i64 xp.s) ∧ w'.cell? ⟨B, 5, none⟩ = some (.slice a2 xu.length cap2)) (exact (hI.same rfl rfl rfl rfl).held)
    (first
      | (go_at_call 10; refine (cwrong_at ⟨xm, xh, xp, xu⟩ HW.out a2 cap2 _ ?_).mono ?_; exact hI.lies rfl rfl rfl rfl; rintro e w1 ⟨rfl, hb⟩; have hI := Pair.call hb hI rfl rfl rfl rfl; clear hb)
      | (go_at_call 9; refine (free_at ⟨xm, h, p, u⟩ f a cap _ m3 m4 m1 m2 HF.out).mono ?_; rintro e w1 ⟨rfl, hb⟩; have hI := Pair.call hb hI rfl rfl rfl rfl; clear hb)
      | (go_at_call 9; refine (free_at ⟨xm, xh, xp, xu⟩ (f - s) a2 cap2 _ m3 m4 x3 x4 HF2.out).mono ?_; rintro e w1 ⟨rfl, hb⟩; have hI := Pair.call hb hI rfl rfl rfl rfl; clear hb))
  all_goals (go_wp2_with fail; go_ret; exact ⟨by simp, hI.bel rfl rfl rfl rfl⟩)
end Go.Proofs.Ytdifndnogpcbkab
