/- The walks of wrongRecord, Wrong, sign, Net and total. -/
import Derived.Test.YtodkcagingnelabDyCell
namespace Go.Proofs.Ytodkcagingnelab.Dy
open Go.RowKit Go.Proofs.Ytodkcagingnelab.Gn

theorem wr_ways (r : Rc) : Hid (wrongR r = 1) ∧ (r.k < 1 ∨ (1 ≤ r.k ∧ 8 < r.k)) ∨ (1 ≤ r.k ∧ r.k ≤ 8) ∧ (Hid (wrongR r = 3) ∧ (r.sh < 0 ∨ (0 ≤ r.sh ∧ 8 ≤ r.sh) ∨ (0 ≤ r.sh ∧ r.sh < 8 ∧ r.au < 0) ∨ (0 ≤ r.sh ∧ r.sh < 8 ∧ 0 ≤ r.au ∧ 30 ≤ r.au) ∨ (0 ≤ r.sh ∧ r.sh < 8 ∧ 0 ≤ r.au ∧ r.au < 30 ∧ r.m < 1) ∨ (0 ≤ r.sh ∧ r.sh < 8 ∧ 0 ≤ r.au ∧ r.au < 30 ∧ 1 ≤ r.m ∧ 1000000 < r.m)) ∨
    Hid (wrongR r = 0) ∧ 0 ≤ r.sh ∧ r.sh < 8 ∧ 0 ≤ r.au ∧ r.au < 30 ∧ 1 ≤ r.m ∧ r.m ≤ 1000000) := by
  unfold wrongR
  by_cases h1 : noKind r
  · refine Or.inl ⟨hid (if_pos h1), ?_⟩
    unfold noKind at h1; omega
  · refine Or.inr ⟨by unfold noKind at h1; omega, ?_⟩
    rw [if_neg h1]
    by_cases h2 : far r
    · refine Or.inl ⟨hid (if_pos h2), ?_⟩
      unfold far at h2; omega
    · refine Or.inr ⟨hid (if_neg h2), ?_⟩
      unfold far at h2; omega

set_option maxHeartbeats 2000000 in
theorem wrongRecord_any (r : Rc) (w : World) : Calls Try.prog 71 #[rv r] w fun e w' => e = .returned (.int .i64 (wrongR r)) ∧ Below w.heap.size w w' := by
  have W := wr_ways r
  have b0 : Below w.heap.size w (w.alloc (rob r)) := below_alloc _ _
  unfold rob at b0
  unfold rv
  generalize wrongR r = u at *
  obtain ⟨sh, au, k, m⟩ := r
  dsimp only at W b0 ⊢
  rcases W with ⟨hu, h | ⟨h, h1⟩⟩ | ⟨⟨k1, k2⟩, ⟨hu, h | ⟨h, h1⟩ | ⟨h, h1, h2⟩ | ⟨h, h1, h2, h3⟩ | ⟨h, h1, h2, h3, h4⟩ | ⟨h, h1, h2, h3, h4, h5⟩⟩ | ⟨hu, h, h1, h2, h3, h4, h5⟩⟩
  all_goals
    go_enter Try.func71, Try.ntmps71
    go_wp2
    go_ret
    exact ⟨ret_int hu.out.symm, b0⟩

theorem ret_fault {c i c' i' : Int} (h : (c, i) = (c', i')) : Ending.returned (.agg #[.int .i64 c, .int .i64 i]) = .returned (.agg #[.int .i64 c', .int .i64 i']) := by
  cases h; rfl
/-- A fault, as a value. -/
def fv (f : Int × Int) : Value := .agg #[.int .i64 f.1, .int .i64 f.2]

/-- The result's block. -/
theorem res_cells {w W : World} {a b : Int} {t : TypeId} (h : W.heap[w.heap.size]? = some (.cells #[.int .i64 a, .int .i64 b] t)) :
    W.cell? ⟨w.heap.size, 0, none⟩ = some (.int .i64 a) ∧ W.cell? ⟨w.heap.size, 1, none⟩ = some (.int .i64 b) ∧ W.frozen? ⟨w.heap.size, 0, none⟩ = false ∧ W.frozen? ⟨w.heap.size, 1, none⟩ = false := by
  refine ⟨?_, ?_, ?_, ?_⟩ <;> simp [World.cell?, World.frozen?, h]

set_option maxHeartbeats 2000000 in
theorem wrong_any (L : List Rc) (v : Value) (w : World) (h : At kR w v L) :
    Calls Try.prog 42 #[v] w fun e w' => e = .returned (fv (wrongL L)) ∧ Below w.heap.size w w' := by
  have hm := h.len
  unfold maxLen at hm
  obtain ⟨a, c, rfl, hl⟩ := h
  unfold fv
  by_cases h100 : 100 < L.length
  · have HG := hid (wrong_many h100)
    have h100' : (100 : Int) < L.length := by omega
    go_enter Try.func42, Try.ntmps42
    go_wp2
    refine bodyPost_ret (v := .agg #[.int .i64 5, .int .i64 0]) (by simp [results, Try.results42, go_sem]) rfl ⟨?_, ?_⟩
    · rw [HG.out]
    · repeat (first | exact Below.refl _ _ | refine Below.setCell ?_ (by simp) _ | refine bel_alloc ?_ _)
  have h100' : (L.length : Int) ≤ 100 := by omega
  have hg0 := good_zero (l := L) (by omega)
  have b0 : Below w.heap.size w (w.alloc (.cells #[.int .i64 0, .int .i64 0] 44)) := below_alloc _ _
  have hR0 : (w.alloc (.cells #[.int .i64 0, .int .i64 0] 44)).heap[w.heap.size]? = some (.cells #[.int .i64 0, .int .i64 0] 44) := heap_alloc_at _ _ _ rfl
  go_enter Try.func42, Try.ntmps42
  go_wp2
  generalize w.alloc (.cells #[.int .i64 0, .int .i64 0] 44) = W0 at *
  go_loopw [12] (fun i wr => ∃ k : Nat, k ≤ L.length ∧ i = .int .i64 k ∧ Hid (Good L k) ∧ Below W0.heap.size W0 wr) (fun i _ => L.length - (intOf i).toNat)
  case atStart => exact ⟨0, Nat.zero_le _, rfl, hg0, Below.refl _ _⟩
  case round =>
    obtain ⟨k, hk, rfl, hg, hb⟩ := hrel
    generalize wr = W at *
    have hz := lt_of_block hR0
    have hRW := (hb.block _ hz).trans hR0
    have hbw : Below w.heap.size w W := b0.trans (hb.mono b0.size)
    by_cases hlt : k < L.length
    · have hlt' : (k : Int) < L.length := by omega
      obtain ⟨b, off, rfl, hbl, e1, e2, e3, e4⟩ := rc_cells (hl.below hbw) hlt
      have G1 := hid fun h => hg.out.bad hlt h
      have G2 := hid fun h => hg.out.next hlt h
      generalize L.getD k zR = r at *
      have hWr : ∀ X : World, Calls Try.prog 71 #[rv r] X fun e w' => e = .returned (.int .i64 (wrongR r)) ∧ Below X.heap.size X w' := fun X => wrongRecord_any r X
      unfold rv at hWr
      have hb2 : ∀ o, Below W0.heap.size W0 (W.alloc o) := fun o => hb.alloc hb.size o
      have hbw2 : ∀ o, Below w.heap.size w (W.alloc o) := fun o => bel_alloc hbw o
      by_cases h0 : wrongR r = 0
      · have h0' : (wrongR r != 0) = false := by simpa using h0
        have HG := hid (G2.out h0)
        clear G1 G2 h0
        generalize wrongR r = u at *
        go_wp2_with (go_at_call 71; refine (hWr _).mono ?_; rintro e w1 ⟨rfl, hb1⟩)
        go_roundw
        case rel => exact ⟨k + 1, by omega, by go_num, HG, (hb2 _).trans (hb1.mono (by have := hb.size; simp; omega))⟩
        case measure => simp [intOf]; omega
      · have h0' : (wrongR r != 0) = true := by simpa using h0
        have HG := hid (G1.out h0)
        clear G1 G2 h0
        generalize wrongR r = u at *
        have key : ∀ w1 : World, Below (W.alloc (.cells #[.int .i64 r.sh, .int .i64 r.au, .int .i64 r.k, .int .i64 r.m] 87)).heap.size (W.alloc (.cells #[.int .i64 r.sh, .int .i64 r.au, .int .i64 r.k, .int .i64 r.m] 87)) w1 →
            w1.heap[w.heap.size]? = some (.cells #[.int .i64 0, .int .i64 0] 44) ∧ Below w.heap.size w w1 := fun w1 hb1 => by
          have hz2 : w.heap.size < W.heap.size := Nat.lt_of_lt_of_le hz hb.size
          exact ⟨(hb1.block _ (by simp; omega)).trans ((heap_alloc_old _ _ hz2).trans hRW), (hbw2 _).trans (hb1.mono (by simp; omega))⟩
        go_upto_region 8 with (go_at_call 71; refine (hWr _).mono ?_; rintro e w1 ⟨rfl, hb1⟩)
        obtain ⟨k1, k2⟩ := key w1 hb1
        obtain ⟨r0, r1, f0, f1⟩ := res_cells k1
        go_wp2_with fail
        refine bodyPost_ret (v := .agg #[.int .i64 u, .int .i64 k]) (by simp [results, Try.results42, go_sem, r0, r1]) rfl ⟨?_, (k2.setCell (Nat.le_refl _) _).setCell (Nat.le_refl _) _⟩
        rw [HG.out]
    · have HG := hid (hg.out.done (by omega))
      obtain ⟨r0, r1, f0, f1⟩ := res_cells hRW
      go_wp2
      refine bodyPost_ret (v := .agg #[.int .i64 0, .int .i64 0]) (by simp [results, Try.results42, go_sem, r0, r1]) rfl ⟨?_, (hbw.setCell (Nat.le_refl _) _).setCell (Nat.le_refl _) _⟩
      rw [HG.out]
end Go.Proofs.Ytodkcagingnelab.Dy
