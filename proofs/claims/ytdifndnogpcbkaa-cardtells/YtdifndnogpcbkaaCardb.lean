/- The walks of own and of the document's SameCard. -/
import Derived.Test.YtdifndnogpcbkaaCarda
namespace Go.Proofs.Ytdifndnogpcbkaa
open Go.RowKit

/-- A card that the call has made. -/
def Given (w : World) (c : Ca) (e : Ending) (w' : World) : Prop := ∃ a cap, e = .returned (cv c a cap) ∧ Lies w' a cap c.u ∧ Past w.heap.size a ∧ Below w.heap.size w w'

theorem past_mono {B B' : Nat} {a : Option Addr} (h : Past B a) (hb : B' ≤ B) : Past B' a := fun ad ha => Nat.le_trans hb (h ad ha)
theorem past_none (B : Nat) : Past B none := fun _ h => by cases h

set_option maxHeartbeats 1000000 in
theorem own_none (c : Ca) (w : World) (hu : c.u = []) :
    Calls Try.prog 73 #[cv c none 0] w (Given w c) := by
  obtain ⟨i0, hi, hz0, hz1, hz2⟩ := info_parts infoUse
  obtain ⟨m, h, p, u⟩ := c
  dsimp only at hu
  subst hu
  unfold cv
  dsimp only [List.length_nil]
  go_enter Try.func73, Try.ntmps73
  go_wp2_with (at_builtin; refine wpList_append_own_none rfl _ _ 56 rfl w.heap.size 58 i0 2 Try.underlying56 hi _ _ _ rfl (World.ownsRow_nil _ _ _ _) rfl ?_)
  refine bodyPost_ret (v := .agg #[.int .i64 m, .int .i64 h, .int .i64 p.t, .int .i64 p.c, .int .i64 p.s, .slice none 0 0]) (by simp [results, Try.results73, go_sem]; try rfl) rfl ⟨none, 0, rfl, lies_nil _, past_none _, ?_⟩
  exact ((below_alloc _ _).trans ((below_alloc _ _).mono (by simp)))

set_option maxHeartbeats 1000000 in
theorem own_some (c : Ca) (ad : Addr) (cap : Nat) (w : World) (hL : Lies w (some ad) cap c.u) (hf : c.u.length ≤ 30) :
    Calls Try.prog 73 #[cv c (some ad) cap] w (Given w c) := by
  obtain ⟨i0, hi, hz0, hz1, hz2⟩ := info_parts infoUse
  have hE : ∀ o o' j u, (flat c.u)[j]? = some u → ((w.alloc o).alloc o').cell? (ad.add j) = some u := fun o o' => ents_flat ((hL.ents.below (below_alloc _ _)).below (below_alloc _ _))
  unfold cv
  go_enter Try.func73, Try.ntmps73
  go_wp2_with (at_builtin; refine wpList_append_own _ rfl _ _ 56 rfl (w.heap.size + 2) 58 i0 (.agg #[.int .i64 0, .int .i64 0]) 2 16 Try.underlying56 hi hz0 hz1 hz2 rfl (by decide) _ _ _ rfl (World.ownsRow_nil _ _ _ _) ad c.u.length cap (flat c.u) rfl (flat_length _) (hE _ _) (flat_one _) ?c3 ?c4 ?c5 ?_)
  case c3 => unfold maxLen; omega
  case c4 => omega
  case c5 => simp
  intro v' w3 hown' hgrow _
  have hb : Below (w.heap.size + 2) _ w3 := (Below.refl _ _).grown hgrow (by simp) (fun k hk => by cases hk)
  obtain ⟨a', cap', rfl, hl', hpast⟩ := lies_of_owns hown'
  have hw : Below w.heap.size w w3 := ((below_alloc _ _).trans ((below_alloc _ _).mono (by simp))).trans (hb.mono (by omega))
  have hc : w3.heap[w.heap.size]? = some (co c (some ad) cap) := by
    rw [hb.block _ (by omega), Below.heap_alloc _ _ _ (by simp)]; exact heap_alloc_at _ _ _ rfl
  have hr : w3.heap[w.heap.size + 1]? = some (co zeroC none 0) := by
    rw [hb.block _ (by omega)]; exact heap_alloc_at _ _ _ (by simp)
  obtain ⟨C0, C1, C2, C3, C4, C5⟩ := co_cells hc
  obtain ⟨F0, F1, F2, F3, F4, F5⟩ := co_free hc
  obtain ⟨R0, R1, R2, R3, R4, R5⟩ := co_cells hr
  obtain ⟨E0, E1, E2, E3, E4, E5⟩ := co_free hr
  clear hown' hgrow hE hc hr hb
  go_wp2
  refine bodyPost_ret (v := .agg #[.int .i64 c.m, .int .i64 c.h, .int .i64 c.p.t, .int .i64 c.p.c, .int .i64 c.p.s, .slice a' c.u.length cap']) (by simp [results, Try.results73, go_sem, R0, R1, R2, R3, R4, R5]; try rfl) rfl ⟨a', cap', rfl, ?_, past_mono hpast (by omega), ?_⟩
  · repeat refine Lies.set ?_ hpast (by simp) _
    exact hl'
  · repeat refine Below.setCell ?_ (by simp) _
    exact hw

theorem own_any (c : Ca) (a : Option Addr) (cap : Nat) (w : World) (hL : Lies w a cap c.u) (hf : c.u.length ≤ 30) :
    Calls Try.prog 73 #[cv c a cap] w (Given w c) := by
  cases a with
  | none =>
    have h0 := hL.nil rfl
    subst h0
    exact own_none c w hL.none_nil
  | some ad => exact own_some c ad cap w hL hf

set_option maxHeartbeats 1000000 in
theorem sameC_any (c : Ca) (a : Option Addr) (cap : Nat) (a2 : Option Addr) (cap2 : Nat) (w : World) (h1 : Lies w a cap c.u) (h2 : Lies w a2 cap2 c.u) :
    Calls Try.prog 51 #[cv c a cap, cv c a2 cap2] w fun e w' => e = .returned (.bool true) ∧ Below w.heap.size w w' := by
  have hE : ∀ o o', Ents ((w.alloc o).alloc o') a c.u := fun o o' => (h1.ents.below (below_alloc _ _)).below (below_alloc _ _)
  have hE2 : ∀ o o', Ents ((w.alloc o).alloc o') a2 c.u := fun o o' => (h2.ents.below (below_alloc _ _)).below (below_alloc _ _)
  have b0 : ∀ o o', Below w.heap.size w ((w.alloc o).alloc o') := fun o o' => (below_alloc _ _).trans ((below_alloc _ _).mono (by simp))
  unfold cv
  go_enter Try.func51, Try.ntmps51
  go_wp2_with (go_at_call 40; refine (same_any a cap c.u a2 cap2 _ (hE _ _) (hE2 _ _)).mono ?_; rintro e w1 ⟨rfl, hb1⟩)
  go_ret
  exact ⟨rfl, (b0 _ _).trans (hb1.mono (by simp; omega))⟩
end Go.Proofs.Ytdifndnogpcbkaa
