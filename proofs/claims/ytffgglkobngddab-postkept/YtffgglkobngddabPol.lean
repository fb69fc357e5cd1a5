/- The walk of the law PostKept. -/
import Derived.Test.YtffgglkobngddabPok
import Derived.Test.YtffgglkobngddabPog
import Derived.Test.YtffgglkobngddabPof
namespace Go.Proofs.Ytffgglkobngddab.Po
open Go.RowKit Go.Proofs.Ytffgglkobngddab.Gn

/-- What the law holds on to: the sender's box, the sender that was answered. -/
structure Ke (w : World) (s : Se) (a : Option Addr) (cap : Nat) (D : Nat) (x : Se) (a' : Option Addr) (cap' : Nat) (W : World) : Prop where
  bel : Below w.heap.size w W
  box : W.heap[w.heap.size]? = some (so s a cap)
  out : W.heap[D]? = some (so x a' cap')
  lies : Lies kT W a' cap' x.kept

theorem Ke.on {w : World} {s : Se} {a : Option Addr} {cap D : Nat} {x : Se} {a' : Option Addr} {cap' : Nat} {W W' : World} (h : Ke w s a cap D x a' cap' W) (hb : Below W.heap.size W W') : Ke w s a cap D x a' cap' W' :=
  ⟨h.bel.trans (hb.mono h.bel.size), (hb.block _ (lt_of_block h.box)).trans h.box, (hb.block _ (lt_of_block h.out)).trans h.out, h.lies.below hb⟩

theorem those_nth {seen : Int} {L : List Tr} {k : Nat} (hk : k < L.length) (h : seen < (L.getD k zeroT).n) :
    (those seen (L.take k)).length < (those seen L).length ∧ (those seen L).getD (those seen (L.take k)).length zeroT = L.getD k zeroT := by
  have e : those seen L = those seen (L.take k) ++ (L.getD k zeroT :: those seen (L.drop (k + 1))) := by
    have h1 : L = L.take k ++ (L.getD k zeroT :: L.drop (k + 1)) := by rw [← drop_at hk, List.take_append_drop]
    have h2 : those seen L = those seen (L.take k ++ (L.getD k zeroT :: L.drop (k + 1))) := by rw [← h1]
    rw [h2]
    unfold those
    rw [List.filter_append, List.filter_cons, if_pos (by simpa using h)]
  refine ⟨by rw [e]; simp, ?_⟩
  rw [e]
  simp only [List.getD_eq_getElem?_getD]
  rw [List.getElem?_append_right (Nat.le_refl _)]
  simp

theorem fieldFault (x y : Int) (w : World) : (Instr.field 44 (.agg #[.int .i64 x, .int .i64 y]) 0).run Try.prog w = .ok (.int .i64 x) w := by kernel_rfl

theorem back_again {s : Se} {seen : Int} (h0 : (wrongS s).1 = 0) (h : ¬ (seen < 0 ∨ s.sent < seen)) : (wrongS ⟨s.sent, those seen s.kept⟩).1 = 0 ∧ backS ⟨s.sent, those seen s.kept⟩ seen = (⟨s.sent, those seen s.kept⟩, 0) := by
  have R := right_back' (seen := seen) (wrongS_ok.1 h0) (by omega)
  refine ⟨wrongS_ok.2 R, ?_⟩
  rw [backS_ok (wrongS_ok.2 R) h]
  simp only [those_again]

set_option maxHeartbeats 4000000 in
theorem kept_any (s : Se) (a : Option Addr) (cap : Nat) (seen : Int) (w : World) (hL : Lies kT w a cap s.kept) :
    Calls Try.prog 8 #[sv s a cap, .int .i64 seen] w fun e w' => e = .returned (.bool true) ∧ Below w.heap.size w w' := by
  have hm := hL.len
  unfold maxLen at hm
  unfold sv
  go_enter Try.func8, Try.ntmps8
  go_wp2_with fail
  refine (alive_any _).mono ?_
  rintro e w1 ⟨rfl, hb1⟩
  have hbx : w1.heap[w.heap.size]? = some (so s a cap) := (hb1.block _ (by simp)).trans (heap_alloc_at _ _ _ rfl)
  have bb1 : Below w.heap.size w w1 := (below_alloc _ _).trans (hb1.mono (by simp))
  clear hb1
  obtain ⟨B0, B1⟩ := so_cells hbx
  go_wp2_with fail
  refine (back_any s a cap seen _ (hL.below bb1)).mono ?_
  generalize hP : backS s seen = P
  obtain ⟨x, q⟩ := P
  rintro e w2 ⟨v2, rfl, hrow2, hb2⟩
  obtain ⟨a2, cap2, rfl, -, hl2⟩ := row_at' hrow2
  dsimp only at hl2 ⊢
  have K2 : Ke w s a cap w2.heap.size x a2 cap2 (w2.alloc (so x a2 cap2)) := by
    have b2 := bb1.trans (hb2.mono bb1.size)
    exact ⟨b2.alloc b2.size _, (Below.heap_alloc _ _ _ (Nat.lt_of_lt_of_le (lt_of_block hbx) hb2.size)).trans ((hb2.block _ (lt_of_block hbx)).trans hbx), heap_alloc_at _ _ _ rfl, hl2.alloc _⟩
  clear hb2 hrow2 hl2 B0 B1 hbx bb1
  unfold so at K2
  go_upto_region 4 with fail
  generalize w2.alloc (.cells #[.int .i64 x.sent, .slice a2 x.kept.length cap2] 40) = W2 at *
  generalize w2.heap.size = D at *
  by_cases h0 : (wrongS s).1 = 0
  rotate_left
  · have e1 := (backS_bad (seen := seen) h0).symm.trans hP
    obtain ⟨rfl, rfl⟩ := Prod.mk.inj e1
    have hne : ((wrongS s).1 != 0) = true := by simpa using h0
    obtain ⟨C0, C1⟩ := so_cells K2.out
    have bb := K2.bel
    generalize (wrongS s).1 = r at *
    have hz : zeroS.kept.length = 0 := rfl
    go_wp2
    go_ret
    exact ⟨ret_bool (by simp), bb⟩
  by_cases h1 : seen < 0 ∨ s.sent < seen
  · have e1 := (backS_range h0 h1).symm.trans hP
    obtain ⟨rfl, rfl⟩ := Prod.mk.inj e1
    obtain ⟨C0, C1⟩ := so_cells K2.out
    have bb := K2.bel
    have hz : zeroS.kept.length = 0 := rfl
    clear h1
    go_wp2
    go_ret
    exact ⟨ret_bool (by simp), bb⟩
  have e1 := (backS_ok h0 h1).symm.trans hP
  obtain ⟨rfl, rfl⟩ := Prod.mk.inj e1
  obtain ⟨g1, g2⟩ := back_again h0 h1
  have HA := hid g2
  have R := wrongS_ok.1 h0
  have q1 := R.few
  clear hP g2 e1 h0 h1 R
  obtain ⟨B0, B1⟩ := so_cells K2.box
  obtain ⟨C0, C1⟩ := so_cells K2.out
  have HN := hid (fun k => those_nth (seen := seen) (L := s.kept) (k := k))
  have HH := hid (fun k => those_hit (seen := seen) (L := s.kept) (k := k))
  have HM := hid (fun k => those_miss (seen := seen) (L := s.kept) (k := k))
  have HL := hid (fun k => those_all (seen := seen) (L := s.kept) (k := k))
  have hle := those_le seen s.kept
  generalize hO : those seen s.kept = O at *
  dsimp only at C0 C1
  have hfd := fieldFault
  go_wp2_with fail
  refine (wrong_any ⟨s.sent, O⟩ a2 cap2 _ K2.lies).mono ?_
  rw [g1]
  rintro e w3 ⟨rfl, hb3⟩
  have K3 := K2.on hb3
  clear hb3 K2 B0 B1 C0 C1 hO
  obtain ⟨B0, B1⟩ := so_cells K3.box
  generalize (wrongS ⟨s.sent, O⟩).2 = r2 at *
  go_wp2
  go_loopw [7, 39] (fun c i wr => ∃ k : Nat, k ≤ s.kept.length ∧ i = .int .i64 k ∧ c = .int .i64 ((those seen (s.kept.take k)).length : Int) ∧ Ke w s a cap D ⟨s.sent, O⟩ a2 cap2 wr) (fun _ i _ => s.kept.length - (intOf i).toNat)
  case atStart => exact ⟨0, Nat.zero_le _, rfl, rfl, K3⟩
  case round =>
    obtain ⟨k, hk, rfl, rfl, hK⟩ := hrel
    clear K3 B0 B1
    generalize wr = W at *
    by_cases hlt : k < s.kept.length
    · have hlt' : (k : Int) < s.kept.length := by omega
      obtain ⟨b, off, rfl, hbl, e1, e2, e3, e4⟩ := tr_cells (hL.below hK.bel) hlt
      have HN' := hid (fun h => HN.out k hlt h)
      have HH' := hid (fun h => HH.out k hlt h)
      have HM' := hid (fun h => HM.out k hlt h)
      generalize s.kept.getD k zeroT = t at *
      have K1 := hK.on (below_alloc W (tob t))
      have hT : (W.alloc (tob t)).heap[W.heap.size]? = some (tob t) := heap_alloc_at _ _ _ rfl
      go_upto_region 12 with fail
      unfold tob at K1 hT
      clear e1 e2 e3 e4 hK
      generalize W.alloc (.cells #[.int .i64 t.n, .int .i64 t.k, .int .i64 t.a, .int .i64 t.s] 42) = W2 at *
      obtain ⟨T0, T1, T2, T3⟩ := tob_cells hT
      by_cases hq : seen < t.n
      · obtain ⟨n1, n2⟩ := HN'.out hq
        have HH2 := hid (HH'.out hq)
        clear HN' HH' HM'
        obtain ⟨L, hLd⟩ : ∃ L, Hid (L = those seen (s.kept.take k)) := ⟨_, rfl⟩
        rw [← hLd.out] at n1 n2 HH2 ⊢
        obtain ⟨b2, off2, rfl, hbl2, f1, f2, f3, f4⟩ := tr_cells K1.lies n1
        rw [n2] at f1 f2 f3 f4
        obtain ⟨C0, C1⟩ := so_cells K1.out
        dsimp only at C0 C1
        have n1' : (L.length : Int) < O.length := by omega
        have hd : decide (O.length ≤ L.length) = false := by simpa using n1
        clear n2
        go_upto_region 13 with fail
        go_quiet (fail)
        go_wp2
        go_roundw
        case rel => exact ⟨k + 1, by omega, by go_num, by rw [HH2.out]; simp, K1.on (below_drewN (Below.refl _ _) _)⟩
        case measure => simp [intOf]; omega
      · have HM2 := hid (HM'.out (by omega))
        clear HN' HH' HM'
        go_wp2
        go_roundw
        case rel => exact ⟨k + 1, by omega, by go_num, by rw [HM2.out], K1⟩
        case measure => simp [intOf]; omega
    · have hlen := HL.out k (by omega)
      rw [hlen]
      clear hlen HN HH HM HL
      obtain ⟨C0, C1⟩ := so_cells hK.out
      dsimp only at C0 C1
      go_wp2_with fail
      refine (back_any ⟨s.sent, O⟩ a2 cap2 seen _ hK.lies).mono ?_
      rw [HA.out]
      rintro e w4 ⟨v4, rfl, hrow4, hb4⟩
      obtain ⟨a4, cap4, rfl, -, hl4⟩ := row_at' hrow4
      dsimp only at hl4 ⊢
      have K4 := (hK.on hb4).on (below_alloc w4 (so ⟨s.sent, O⟩ a4 cap4))
      have hl5 := hl4.alloc (so ⟨s.sent, O⟩ a4 cap4)
      have hY : (w4.alloc (so ⟨s.sent, O⟩ a4 cap4)).heap[w4.heap.size]? = some (so ⟨s.sent, O⟩ a4 cap4) := heap_alloc_at _ _ _ rfl
      clear hrow4 hb4 hl4 hK C0 C1
      unfold so at K4 hl5 hY
      go_upto_region 18 with fail
      generalize w4.alloc (.cells #[.int .i64 s.sent, .slice a4 O.length cap4] 40) = W4 at *
      obtain ⟨C0, C1⟩ := so_cells K4.out
      obtain ⟨D0, D1⟩ := so_cells hY
      dsimp only at C0 C1 D0 D1
      go_wp2_with fail
      refine (same_any ⟨s.sent, O⟩ a2 cap2 a4 cap4 _ K4.lies hl5).mono ?_
      rintro e w5 ⟨rfl, hb5⟩
      have K5 := K4.on hb5
      have bb := K5.bel
      go_wp2
      go_ret
      exact ⟨rfl, bb⟩

theorem kept_fit (s : Se) (a : Option Addr) (cap : Nat) (seen : Int) (w : World) (hL : Lies kT w a cap s.kept) (_ : Fit s.kept) :
    Calls Try.prog 8 #[sv s a cap, .int .i64 seen] w fun e w' => e = .returned (.bool true) ∧ Below w.heap.size w w' := kept_any s a cap seen w hL
end Go.Proofs.Ytffgglkobngddab.Po
