/- The walks of those and of Take. -/
import Derived.Test.YtffgglkobngddabPob
namespace Go.Proofs.Ytffgglkobngddab.Po
open Go.RowKit Go.Proofs.Ytffgglkobngddab.Gn

/-- What is handed back: a list that the call has made. -/
def Made (w : World) (L : List Tr) (e : Ending) (w' : World) : Prop :=
  ∃ v, e = .returned v ∧ Row kT 42 w' w.heap.size v L ∧ Below w.heap.size w w'

set_option maxHeartbeats 2000000 in
theorem those_any (a : Option Addr) (cap : Nat) (L : List Tr) (c : Nat) (seen : Int) (w : World) (hL : Lies kT w a cap L) (hc : w.heap[c]? = some (.cells #[.int .i64 seen] 3)) (hf : L.length ≤ 40) :
    Calls Try.prog 35 #[.slice a L.length cap, .func (.func 42) #[] #[.pointer (some ⟨c, 0, none⟩)]] w (Made w (those seen L)) := by
  go_enter Try.func35, Try.ntmps35
  go_wp2
  go_loopw [5, 10] (fun v i wr => ∃ k : Nat, k ≤ L.length ∧ i = .int .i64 k ∧ Row kT 42 wr w.heap.size v (those seen (L.take k)) ∧ Below w.heap.size w wr) (fun _ i _ => L.length - (intOf i).toNat)
  case atStart => exact ⟨0, Nat.zero_le _, rfl, .nil, Below.refl _ _⟩
  case round =>
    obtain ⟨k, hk, rfl, hown, hb⟩ := hrel
    have hsw := hb.size
    generalize wr = W at *
    by_cases hlt : k < L.length
    · have hlt' : (k : Int) < L.length := by omega
      obtain ⟨b, off, rfl, hbl, e1, e2, e3, e4⟩ := tr_cells (hL.below hb) hlt
      have HH := hid (those_hit (seen := seen) hlt)
      have HM := hid (those_miss (seen := seen) hlt)
      have hle := those_take_le seen L k
      have hcW : W.heap[c]? = some (.cells #[.int .i64 seen] 3) := (hb.block _ (lt_of_block hc)).trans hc
      have hcl := lt_of_block hcW
      generalize L.getD k zeroT = t at *
      by_cases hq : seen < t.n
      · have HH' := hid (HH.out hq)
        clear HH HM
        have hd : decide (seen < t.n) = true := by simpa using hq
        go_wp2_with fail
        refine (stays_any t c seen _ ((Below.heap_alloc _ _ _ hcl).trans hcW)).mono ?_
        rintro e w2 ⟨rfl, hb2⟩
        rw [hd]
        have hown2 := (hown.alloc _).below hb2
        have hb12 : Below w.heap.size w w2 := hb.trans (((below_alloc _ _).trans (hb2.mono (by simp))).mono hsw)
        have hT : w2.heap[W.heap.size]? = some (tob t) := (hb2.block _ (by simp)).trans (heap_alloc_at _ _ _ rfl)
        obtain ⟨T0, T1, T2, T3⟩ := tob_cells hT
        have hs2 := hb12.size
        clear hown hb2 e1 e2 e3 e4 hT
        go_wp2_with (at_builtin; refine wpList_append elemT _ rfl _ _ rfl w.heap.size _ _ rfl (hown2.alloc _) (some ⟨w2.heap.size, 0, none⟩) 1 1 [t] rfl rfl (lies_one (heap_alloc_at _ _ _ rfl) rfl _) ?c3 ?c4 ?c5 ?_)
        case c3 => simp [maxLen]; omega
        case c4 => simp; omega
        case c5 => simp; omega
        intro v' w3 hown' hgrow _ _
        have hb' : Below w.heap.size w w3 := below_grown (hb12.alloc hs2 _) hgrow (hown2.alloc _) (Nat.le_refl _) (by simp; omega)
        clear hgrow hown2
        go_wp2
        go_roundw
        case rel => exact ⟨k + 1, by omega, by go_num, by rw [HH'.out]; exact hown', hb'⟩
        case measure => simp [intOf]; omega
      · have HM' := hid (HM.out hq)
        clear HH HM
        have hd : decide (seen < t.n) = false := by simpa using hq
        go_wp2_with fail
        refine (stays_any t c seen _ ((Below.heap_alloc _ _ _ hcl).trans hcW)).mono ?_
        rintro e w2 ⟨rfl, hb2⟩
        rw [hd]
        have hown2 := (hown.alloc _).below hb2
        have hb12 : Below w.heap.size w w2 := hb.trans (((below_alloc _ _).trans (hb2.mono (by simp))).mono hsw)
        clear hown hb2
        go_wp2
        go_roundw
        case rel => exact ⟨k + 1, by omega, by go_num, by rw [HM'.out]; exact hown2, hb12⟩
        case measure => simp [intOf]; omega
    · have HA := hid (those_all (seen := seen) (L := L) (k := k) (by omega))
      go_wp2
      go_ret
      exact ⟨_, rfl, by rw [← HA.out]; exact hown, hb⟩

/-- The ways through Take. -/
theorem taken_ways (seen n : Int) :
    (seen < 0 ∧ Hid (taken seen n = false)) ∨ (0 ≤ seen ∧ 1000000 ≤ seen ∧ Hid (taken seen n = false)) ∨ (0 ≤ seen ∧ seen < 1000000 ∧ (n != seen + 1) = true ∧ Hid (taken seen n = false)) ∨
    (0 ≤ seen ∧ seen < 1000000 ∧ (n != seen + 1) = false ∧ Hid (taken seen n = true) ∧ Hid (n = seen + 1)) := by
  by_cases h1 : seen < 0
  · exact Or.inl ⟨h1, taken_false.2 (by omega)⟩
  by_cases h2 : 1000000 ≤ seen
  · exact Or.inr (Or.inl ⟨by omega, h2, taken_false.2 (by omega)⟩)
  by_cases h3 : n = seen + 1
  · exact Or.inr (Or.inr (Or.inr ⟨by omega, by omega, by simpa using h3, taken_true.2 (by omega), h3⟩))
  · exact Or.inr (Or.inr (Or.inl ⟨by omega, by omega, by simpa using h3, taken_false.2 (by omega)⟩))

/-- How many came then. -/
def took (seen n : Int) : Int := if taken seen n = true then seen + 1 else seen
theorem took_true {seen n : Int} (h : taken seen n = true) : took seen n = seen + 1 := by unfold took; rw [if_pos h]
theorem took_false {seen n : Int} (h : taken seen n = false) : took seen n = seen := by unfold took; rw [if_neg (by simp [h])]

theorem ret_take {a b : Int} {x y : Bool} (h1 : a = b) (h2 : x = y) : Ending.returned (.tuple #[.int .i64 a, .bool x]) = .returned (.tuple #[.int .i64 b, .bool y]) := by rw [h1, h2]

set_option maxHeartbeats 1000000 in
theorem take_any (seen : Int) (t : Tr) (w : World) :
    Calls Try.prog 23 #[.int .i64 seen, tv t] w fun e w' => e = .returned (.tuple #[.int .i64 (took seen t.n), .bool (taken seen t.n)]) ∧ Below w.heap.size w w' := by
  unfold tv
  have b0 : ∀ o, Below w.heap.size w (w.alloc o) := below_alloc w
  rcases taken_ways seen t.n with ⟨h1, H⟩ | ⟨h1, h2, H⟩ | ⟨h1, h2, h3, H⟩ | ⟨h1, h2, h3, H, H2⟩
  rotate_right
  · go_enter Try.func23, Try.ntmps23
    go_wp2
    go_ret2
    exact ⟨ret_take (by rw [took_true H.out, H2.out]) H.out.symm, b0 _⟩
  all_goals
    go_enter Try.func23, Try.ntmps23
    go_wp2
    go_ret2
    exact ⟨ret_take (took_false H.out).symm H.out.symm, b0 _⟩
end Go.Proofs.Ytffgglkobngddab.Po
