/- The walks of the document's WrongSender and SameSender. -/
import Derived.Test.YtffgglkobngddabPoe
namespace Go.Proofs.Ytffgglkobngddab.Po
open Go.RowKit Go.Proofs.Ytffgglkobngddab.Gn

set_option maxHeartbeats 400000 in
theorem bad_any (err : Int) (c : Nat) (k : Int) (w : World) (hc : w.heap[c]? = some (.cells #[.int .i64 k] 3)) :
    Calls Try.prog 34 #[.int .i64 err, .pointer (some ⟨c, 0, none⟩)] w fun e w' => e = .returned (.agg #[.int .i64 err, .int .i64 k]) ∧ Below w.heap.size w w' := by
  have hcl : c < w.heap.size := lt_of_block hc
  have hc1 : ∀ o', (w.alloc o').cell? ⟨c, 0, none⟩ = some (.int .i64 k) := fun o' => by rw [World.cell?_alloc_past _ _ _ hcl]; exact cell_of_one hc
  clear hc
  go_enter Try.func34, Try.ntmps34
  go_wp2
  refine bodyPost_ret (v := .agg #[.int .i64 err, .int .i64 k]) (by simp [results, Try.results34, go_sem]; try rfl) rfl ⟨rfl, ?_⟩
  repeat refine Below.setCell ?_ (by simp) _
  exact below_alloc _ _

/-- What the document's Wrong holds on to: the sender's box, the result. -/
structure Wd (w : World) (s : Se) (a : Option Addr) (cap : Nat) (W : World) : Prop where
  bel : Below w.heap.size w W
  box : W.heap[w.heap.size]? = some (so s a cap)
  res : W.heap[w.heap.size + 1]? = some (.cells #[.int .i64 0, .int .i64 0] 44)

theorem Wd.on {w : World} {s : Se} {a : Option Addr} {cap : Nat} {W W' : World} (h : Wd w s a cap W) (hb : Below W.heap.size W W') : Wd w s a cap W' :=
  ⟨h.bel.trans (hb.mono h.bel.size), (hb.block _ (lt_of_block h.box)).trans h.box, (hb.block _ (lt_of_block h.res)).trans h.res⟩
theorem Wd.lt {w : World} {s : Se} {a : Option Addr} {cap : Nat} {W : World} (h : Wd w s a cap W) : w.heap.size + 1 < W.heap.size := lt_of_block h.res

/-- The numbers of a list fit. -/
def Fit (L : List Tr) : Prop := ∀ t ∈ L, -9223372036854775808 ≤ t.n ∧ t.n ≤ 9223372036854775807

theorem form_true {sent n len k : Int} (h1 : 0 ≤ sent) (h2 : sent ≤ 1000000) (h4 : k < len) (hn : -9223372036854775808 ≤ n) (hn2 : n ≤ 9223372036854775807) (h : n ≠ sent - len + 1 + k) :
    (wrap64 (sent - n) != len - 1 - k) = true := by
  have : wrap64 (sent - n) ≠ len - 1 - k := by unfold wrap64; omega
  simpa using this

set_option maxHeartbeats 4000000 in
theorem refWrong_any (s : Se) (a : Option Addr) (cap : Nat) (w : World) (hL : Lies kT w a cap s.kept) (hfit : Fit s.kept) :
    Calls Try.prog 17 #[sv s a cap] w fun e w' => e = .returned (.agg #[.int .i64 (wrongS s).1, .int .i64 (wrongS s).2]) ∧ Below w.heap.size w w' := by
  have hm := hL.len
  unfold maxLen at hm
  unfold sv
  have b1 : ∀ o o', Below w.heap.size w ((w.alloc o).alloc o') := fun o o' => (below_alloc _ _).alloc (by simp) _
  by_cases hf : 40 < s.kept.length
  · have HG := hid (wrongS_many hf)
    have hf' : (40 : Int) < s.kept.length := by omega
    go_enter Try.func17, Try.ntmps17
    go_wp2
    refine bodyPost_ret (v := .agg #[.int .i64 5, .int .i64 0]) (by simp [results, Try.results17, go_sem]; try rfl) rfl ⟨?_, ?_⟩
    · rw [HG.out]
    · repeat refine Below.setCell ?_ (by simp) _
      exact b1 _ _
  have hf0 : s.kept.length ≤ 40 := by omega
  have hf' : (s.kept.length : Int) ≤ 40 := by omega
  clear hf
  by_cases h2 : 1000000 < s.sent
  · have HG := hid (wrongS_range hf0 (Or.inr h2))
    go_enter Try.func17, Try.ntmps17
    go_wp2
    refine bodyPost_ret (v := .agg #[.int .i64 3, .int .i64 0]) (by simp [results, Try.results17, go_sem]; try rfl) rfl ⟨?_, ?_⟩
    · rw [HG.out]
    · repeat refine Below.setCell ?_ (by simp) _
      exact b1 _ _
  have h2' : s.sent ≤ 1000000 := by omega
  clear h2
  by_cases h1 : s.sent < s.kept.length
  · have HG := hid (wrongS_range hf0 (Or.inl h1))
    go_enter Try.func17, Try.ntmps17
    go_wp2
    refine bodyPost_ret (v := .agg #[.int .i64 3, .int .i64 0]) (by simp [results, Try.results17, go_sem]; try rfl) rfl ⟨?_, ?_⟩
    · rw [HG.out]
    · repeat refine Below.setCell ?_ (by simp) _
      exact b1 _ _
  have h1' : (s.kept.length : Int) ≤ s.sent := by omega
  clear h1
  have hmf : ∀ (fn : Fn) (first cap : Array Value) (w : World), (Instr.makeFunc fn first cap).run Try.prog w = .ok (.func fn first cap) w := fun _ _ _ _ => rfl
  have W0 : Wd w s a cap ((w.alloc (so s a cap)).alloc (.cells #[.int .i64 0, .int .i64 0] 44)) := by
    refine ⟨b1 _ _, ?_, heap_alloc_at _ _ _ (by simp)⟩
    rw [Below.heap_alloc _ _ _ (by simp), heap_alloc_at _ _ _ rfl]
  unfold so at W0
  clear b1
  go_enter Try.func17, Try.ntmps17
  go_wp2
  go_loopw [26] (fun i wr => ∃ (k : Nat), k ≤ s.kept.length ∧ i = .int .i64 k ∧ Hid (Good s k) ∧ Wd w s a cap wr) (fun i _ => s.kept.length - (intOf i).toNat)
  case atStart => exact ⟨0, Nat.zero_le _, rfl, good_zero hf0 h1' h2', W0⟩
  case round =>
    obtain ⟨k, hk, rfl, hg, hw⟩ := hrel
    clear W0
    generalize wr = W at *
    obtain ⟨R0, R1, F0, F1⟩ := fault_cells hw.res
    by_cases hlt : k < s.kept.length
    · have hlt' : (k : Int) < s.kept.length := by omega
      obtain ⟨b, off, rfl, hbl, e1, e2, e3, e4⟩ := tr_cells (hL.below hw.bel) hlt
      have hW := (hw.on (below_alloc W (.cells #[.int .i64 (k : Int)] 3))).on (below_alloc _ (tob (s.kept.getD k zeroT)))
      have HB := hid (fun h => hg.out.bad hlt h)
      have HN := hid (fun h => hg.out.next hlt h)
      obtain ⟨n1, n2⟩ := hfit _ (getD_mem hlt)
      clear hg R0 R1 F0 F1
      generalize s.kept.getD k zeroT = t at *
      go_upto_region 10 with fail
      have hc : ((W.alloc (.cells #[.int .i64 (k : Int)] 3)).alloc (tob t)).heap[W.heap.size]? = some (.cells #[.int .i64 (k : Int)] 3) := (Below.heap_alloc _ _ _ (by simp)).trans (heap_alloc_at _ _ _ rfl)
      have hT : ((W.alloc (.cells #[.int .i64 (k : Int)] 3)).alloc (tob t)).heap[W.heap.size + 1]? = some (tob t) := heap_alloc_at _ _ _ (by simp)
      unfold tob at hW hT hc
      clear e1 e2 e3 e4 hw hL
      generalize (W.alloc (.cells #[.int .i64 (k : Int)] 3)).alloc (.cells #[.int .i64 t.n, .int .i64 t.k, .int .i64 t.a, .int .i64 t.s] 42) = W1 at *
      obtain ⟨T0, T1, T2, T3⟩ := tob_cells hT
      obtain ⟨B0, B1⟩ := so_cells hW.box
      have K0 : W1.cell? ⟨W.heap.size, 0, none⟩ = some (.int .i64 (k : Int)) := cell_of_one hc
      rcases wrongT_ways t (s.sent - s.kept.length + 1 + k) with ⟨k1, k2, k3, H⟩ | ⟨hk, h⟩
      · have HG := hid (HB.out (by rw [H.out]; decide))
        rw [H.out] at HG
        clear HB HN H
        go_wp2_with (go_at_call 34; refine (bad_any _ W.heap.size k _ hc).mono ?_; rintro e w5 ⟨rfl, hb5⟩; have hw5 := hW.on hb5; obtain ⟨R0, R1, F0, F1⟩ := fault_cells hw5.res; have bb := hw5.bel; clear hb5)
        refine bodyPost_ret (v := .agg #[.int .i64 1, .int .i64 k]) (by simp [results, Try.results17, go_sem, R0, R1]; try rfl) rfl ⟨?_, ?_⟩
        · rw [HG.out]
        · repeat refine Below.setCell ?_ (by simp) _
          exact bb
      rcases h with ⟨h1, H⟩ | ⟨h1, h2, H⟩ | ⟨h1, h2, h3, H⟩ | ⟨h1, h2, h3, h4, H⟩ | ⟨h1, h2, h3, h4, h5, H⟩ | ⟨h1, h2, h3, h4, h5, H⟩
      · rcases hk with k1 | ⟨k1, k2⟩ | ⟨k1, k2, k3⟩
        all_goals
          have HG := hid (HB.out (by rw [H.out]; decide))
          rw [H.out] at HG
          clear HB HN H
          go_wp2_with (go_at_call 34; refine (bad_any _ W.heap.size k _ hc).mono ?_; rintro e w5 ⟨rfl, hb5⟩; have hw5 := hW.on hb5; obtain ⟨R0, R1, F0, F1⟩ := fault_cells hw5.res; have bb := hw5.bel; clear hb5)
          refine bodyPost_ret (v := .agg #[.int .i64 3, .int .i64 k]) (by simp [results, Try.results17, go_sem, R0, R1]; try rfl) rfl ⟨?_, ?_⟩
          · rw [HG.out]
          · repeat refine Below.setCell ?_ (by simp) _
            exact bb
      · rcases hk with k1 | ⟨k1, k2⟩ | ⟨k1, k2, k3⟩
        all_goals
          have HG := hid (HB.out (by rw [H.out]; decide))
          rw [H.out] at HG
          clear HB HN H
          go_wp2_with (go_at_call 34; refine (bad_any _ W.heap.size k _ hc).mono ?_; rintro e w5 ⟨rfl, hb5⟩; have hw5 := hW.on hb5; obtain ⟨R0, R1, F0, F1⟩ := fault_cells hw5.res; have bb := hw5.bel; clear hb5)
          refine bodyPost_ret (v := .agg #[.int .i64 3, .int .i64 k]) (by simp [results, Try.results17, go_sem, R0, R1]; try rfl) rfl ⟨?_, ?_⟩
          · rw [HG.out]
          · repeat refine Below.setCell ?_ (by simp) _
            exact bb
      · rcases hk with k1 | ⟨k1, k2⟩ | ⟨k1, k2, k3⟩
        all_goals
          have HG := hid (HB.out (by rw [H.out]; decide))
          rw [H.out] at HG
          clear HB HN H
          go_wp2_with (go_at_call 34; refine (bad_any _ W.heap.size k _ hc).mono ?_; rintro e w5 ⟨rfl, hb5⟩; have hw5 := hW.on hb5; obtain ⟨R0, R1, F0, F1⟩ := fault_cells hw5.res; have bb := hw5.bel; clear hb5)
          refine bodyPost_ret (v := .agg #[.int .i64 3, .int .i64 k]) (by simp [results, Try.results17, go_sem, R0, R1]; try rfl) rfl ⟨?_, ?_⟩
          · rw [HG.out]
          · repeat refine Below.setCell ?_ (by simp) _
            exact bb
      · rcases hk with k1 | ⟨k1, k2⟩ | ⟨k1, k2, k3⟩
        all_goals
          have HG := hid (HB.out (by rw [H.out]; decide))
          rw [H.out] at HG
          clear HB HN H
          go_wp2_with (go_at_call 34; refine (bad_any _ W.heap.size k _ hc).mono ?_; rintro e w5 ⟨rfl, hb5⟩; have hw5 := hW.on hb5; obtain ⟨R0, R1, F0, F1⟩ := fault_cells hw5.res; have bb := hw5.bel; clear hb5)
          refine bodyPost_ret (v := .agg #[.int .i64 3, .int .i64 k]) (by simp [results, Try.results17, go_sem, R0, R1]; try rfl) rfl ⟨?_, ?_⟩
          · rw [HG.out]
          · repeat refine Below.setCell ?_ (by simp) _
            exact bb
      · have hform := form_true (by omega) h2' hlt' n1 n2 (by simpa using h5)
        rcases hk with k1 | ⟨k1, k2⟩ | ⟨k1, k2, k3⟩
        all_goals
          have HG := hid (HB.out (by rw [H.out]; decide))
          rw [H.out] at HG
          clear HB HN H h5
          go_wp2_with (go_at_call 34; refine (bad_any _ W.heap.size k _ hc).mono ?_; rintro e w5 ⟨rfl, hb5⟩; have hw5 := hW.on hb5; obtain ⟨R0, R1, F0, F1⟩ := fault_cells hw5.res; have bb := hw5.bel; clear hb5)
          refine bodyPost_ret (v := .agg #[.int .i64 2, .int .i64 k]) (by simp [results, Try.results17, go_sem, R0, R1]; try rfl) rfl ⟨?_, ?_⟩
          · rw [HG.out]
          · repeat refine Below.setCell ?_ (by simp) _
            exact bb
      · have hn : t.n = s.sent - s.kept.length + 1 + k := by simpa using h5
        have n3 : 0 ≤ t.n := by omega
        have n4 : t.n ≤ 1000000 := by omega
        have hform : (s.sent - t.n != s.kept.length - 1 - k) = false := by simp; omega
        have HG := hid (HN.out H.out)
        clear HB HN H h5 hn
        rcases hk with k1 | ⟨k1, k2⟩ | ⟨k1, k2, k3⟩
        all_goals
          go_wp2
          go_roundw
          case rel => exact ⟨k + 1, by omega, by go_num, HG, hW⟩
          case measure => simp [intOf]; omega
    · have HG := hid (hg.out.done (by omega))
      clear hg
      have bb := hw.bel
      go_wp2
      refine bodyPost_ret (v := .agg #[.int .i64 0, .int .i64 0]) (by simp [results, Try.results17, go_sem, R0, R1]; try rfl) rfl ⟨?_, ?_⟩
      · rw [HG.out]
      · repeat refine Below.setCell ?_ (by simp) _
        exact bb
end Go.Proofs.Ytffgglkobngddab.Po
