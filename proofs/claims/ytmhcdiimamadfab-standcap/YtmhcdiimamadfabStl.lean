/- The walk of the law StandCap. -/
import Derived.Test.YtmhcdiimamadfabStf
import Derived.Test.YtmhcdiimamadfabStj
namespace Go.Proofs.Ytmhcdiimamadfab.St
open Go.RowKit Go.Proofs.Ytmhcdiimamadfab.Gn

/-- What the law holds on to: the stand, its lists, and what was given. -/
structure Cp (w : World) (C : Nat) (s : Sd) (G : List Ad) (v1 v2 vg : Value) (W : World) : Prop where
  bel : Below w.heap.size w W
  sb : W.heap[C]? = some (dob s.cap v1 v2)
  r1 : Row kI 3 W w.heap.size v1 s.used
  r2 : Row kA 63 W w.heap.size v2 s.adv
  rg : Row kA 63 W w.heap.size vg G
  g1 : Ap vg v1
  g2 : Ap vg v2
  c1 : ∀ k, v1.ownBlock = some k → k ≠ C
  c2 : ∀ k, v2.ownBlock = some k → k ≠ C
  cg : ∀ k, vg.ownBlock = some k → k ≠ C
  lt : w.heap.size ≤ C

section
variable {w W W' : World} {C : Nat} {s : Sd} {G : List Ad} {v1 v2 vg : Value}

theorem Cp.ltC (h : Cp w C s G v1 v2 vg W) : C < W.heap.size := lt_of_block h.sb
theorem Cp.on (h : Cp w C s G v1 v2 vg W) (hb : Below W.heap.size W W') : Cp w C s G v1 v2 vg W' :=
  ⟨h.bel.trans (hb.mono h.bel.size), (hb.block _ h.ltC).trans h.sb, h.r1.below hb, h.r2.below hb, h.rg.below hb, h.g1, h.g2, h.c1, h.c2, h.cg, h.lt⟩

/-- Another stand, whose lists are new. -/
theorem Cp.give (h : Cp w C s G v1 v2 vg W) (hb : Below W.heap.size W W') (s' : Sd) (x1 x2 : Value) (hr1 : Row kI 3 W' W.heap.size x1 s'.used) (hr2 : Row kA 63 W' W.heap.size x2 s'.adv) :
    Cp w C s' G x1 x2 vg (put3 W' C s'.cap x1 x2) := by
  have hC := h.ltC
  have h' := h.on hb
  have n1 : ∀ k, x1.ownBlock = some k → k ≠ C := fun k hk => by have := (hr1.block_lt k hk).1; omega
  have n2 : ∀ k, x2.ownBlock = some k → k ≠ C := fun k hk => by have := (hr2.block_lt k hk).1; omega
  exact ⟨put3_below h'.bel _ h.lt _ _ _, put3_same h'.sb _ _ _, put3_row (hr1.mono h.bel.size) _ n1 _ _ _, put3_row (hr2.mono h.bel.size) _ n2 _ _ _, put3_row h'.rg _ h'.cg _ _ _,
    fun k h1 h2 => by have := (h.rg.block_lt k h1).2; have := (hr1.block_lt k h2).1; omega,
    fun k h1 h2 => by have := (h.rg.block_lt k h1).2; have := (hr2.block_lt k h2).1; omega, n1, n2, h.cg, h.lt⟩

/-- What was given grows. -/
theorem Cp.more (h : Cp w C s G v1 v2 vg W) (hg : W.grownBy W' vg.ownBlock) {v' : Value} {G' : List Ad} (hr : Row kA 63 W' w.heap.size v' G') (hat : ∀ k, v'.ownBlock = some k → vg.ownBlock = some k ∨ W.heap.size ≤ k) :
    Cp w C s G' v1 v2 v' W' := by
  have hC := h.ltC
  refine ⟨below_grown h.bel hg h.rg (Nat.le_refl _) h.bel.size, (hg.block _ hC (fun e => h.cg C e.symm rfl)).trans h.sb, h.r1.grown hg (fun k h1 h2 => h.g1 k h2 h1), h.r2.grown hg (fun k h1 h2 => h.g2 k h2 h1), hr, ?_, ?_, h.c1, h.c2, ?_, h.lt⟩
  · intro k h1 h2
    rcases hat k h1 with h3 | h3
    · exact h.g1 k h3 h2
    · have := (h.r1.block_lt k h2).2; omega
  · intro k h1 h2
    rcases hat k h1 with h3 | h3
    · exact h.g2 k h3 h2
    · have := (h.r2.block_lt k h2).2; omega
  · intro k h1
    rcases hat k h1 with h3 | h3
    · exact h.cg k h3
    · omega
end

/-- The stand of the law: right, with the limit, and as many cards. -/
structure Fine (limit : Int) (n : Nat) (s : Sd) : Prop where
  right : Right s
  cap : s.cap = limit
  len : s.used.length = n

theorem Fine.give {limit : Int} {n : Nat} {s : Sd} (h : Fine limit n s) {a : Ad} (hg : (giveD s a).2 = 0) : giveD s a = (moreD s a, 0) ∧ Fine limit n (moreD s a) ∧ (moreD s a).adv = s.adv ++ [a] := by
  obtain ⟨h1, h2⟩ := give_right h.right hg
  exact ⟨h1, ⟨h2, h.cap, by rw [← h.len]; simp [moreD]⟩, rfl⟩
theorem sumOf_step' {L : List Ad} {j : Nat} (hj : j < L.length) (k : Int) : sumOf k (L.take (j + 1)) = sumOf k (L.take j) + (if (L.getD j zA).c = k then (L.getD j zA).m else 0) := by
  rw [take_at hj, sumOf_append]

set_option maxRecDepth 10000 in
set_option maxHeartbeats 8000000 in
theorem cap_any (limit cards : Int) (a : Option Addr) (cap : Nat) (L : List Ad) (w : World) (hL : Lies kA w a cap L) :
    Calls Try.prog 10 #[.int .i64 limit, .int .i64 cards, .slice a L.length cap] w fun e w' => e = .returned (.bool true) ∧ Below w.heap.size w w' := by
  have hm := hL.len
  unfold maxLen at hm
  go_enter Try.func10, Try.ntmps10
  go_wp2_with fail
  refine (alive_any _).mono ?_
  rintro e w1 ⟨rfl, hb1⟩
  go_wp2_with fail
  refine (new_any limit cards _).mono ?_
  rcases new_ways limit cards with ⟨h1, H⟩ | ⟨h1, h2, H⟩ | ⟨h1, h2, h3, H⟩ | ⟨n, rfl, h2, h3, H⟩
  rotate_right
  · rw [H.out]
    have hlim := hid (show Lim limit from of_decide_eq_true h3.out)
    have hn8 : (n : Int) ≤ 8 := by omega
    clear h3 H
    rintro e w2 ⟨x1, x2, rfl, r1, r2, hb2⟩
    have F0 : Hid (Fine limit n ⟨limit, List.replicate n 0, []⟩) := ⟨new_right h2 hlim.out, rfl, by simp⟩
    have r1 := r1.mono hb1.size
    have r2 := r2.mono hb1.size
    have hb3 := hb1.trans (hb2.mono hb1.size)
    clear hb1 hb2
    obtain ⟨b1, d1, rfl, -, -⟩ := row_at r1
    obtain ⟨b2, d2, rfl, -, -⟩ := row_at r2
    dsimp only [dv, List.length_nil] at r1 r2 ⊢
    simp only [List.length_replicate] at r1 ⊢
    obtain ⟨s, hs⟩ : ∃ s : Sd, Hid (s = ⟨limit, List.replicate n 0, []⟩) := ⟨_, rfl⟩
    have K0 : Cp w w2.heap.size s s.adv (.slice b1 n d1) (.slice b2 0 d2) (.slice none 0 0) (w2.alloc (dob limit (.slice b1 n d1) (.slice b2 0 d2))) := by
      rw [hs.out]
      refine ⟨hb3.alloc hb3.size _, heap_alloc_at _ _ _ rfl, ?_, r2.alloc _, .nil, ap_nil _, ap_nil _, ?_, ?_, (fun k hk => by cases hk), hb3.size⟩
      · exact r1.alloc _
      · intro k hk
        have := (r1.block_lt k hk).2; omega
      · intro k hk
        have := (r2.block_lt k hk).2; omega
    rw [← hs.out] at F0
    unfold dob at K0
    clear hs r1 r2
    go_upto_region 4 with fail
    generalize w2.alloc (.cells #[.int .i64 limit, .slice b1 n d1, .slice b2 0 d2] 61) = W3 at *
    generalize w2.heap.size = C at *
    go_wp2
    go_loopw [9, 33] (fun g i wr => ∃ (k : Nat) (s : Sd) (v1 v2 : Value), k ≤ L.length ∧ i = .int .i64 k ∧ Hid (Fine limit n s) ∧ Cp w C s s.adv v1 v2 g wr) (fun _ i _ => L.length - (intOf i).toNat)
    case atStart => exact ⟨0, s, _, _, Nat.zero_le _, rfl, F0, K0⟩
    case round =>
      obtain ⟨k, s, v1, v2, hk, rfl, hF, hK⟩ := hrel
      clear F0 K0
      generalize wr = W at *
      by_cases hlt : k < L.length
      · have hlt' : (k : Int) < L.length := by omega
        obtain ⟨b, off, rfl, hbl, e1, e2, e3, e4⟩ := ad_cells (hL.below hK.bel) hlt
        generalize L.getD k zA = t at *
        have hK1 := hK.on (below_alloc W (aob t))
        have hA : (W.alloc (aob t)).heap[W.heap.size]? = some (aob t) := heap_alloc_at _ _ _ rfl
        unfold aob at hK1 hA
        clear hK
        go_upto_region 10 with fail
        generalize W.alloc (.cells #[.int .i64 t.c, .int .i64 t.s, .int .i64 t.m, .int .i64 t.t] 63) = W1 at *
        clear e1 e2 e3 e4
        generalize W.heap.size = A at *
        obtain ⟨C0, C1, C2⟩ := dob_cells hK1.sb
        obtain ⟨T0, T1, T2, T3⟩ := aob_cells hA
        go_wp2_with fail
        refine (give_any s v1 v2 t _ (Row.at hK1.r1) (Row.at hK1.r2)).mono ?_
        by_cases hg : (giveD s t).2 = 0
        · obtain ⟨g1, g2, g3⟩ := hF.out.give hg
          rw [g1]
          have hF2 := hid g2
          have hAd := hid g3
          have hF0 := hF
          clear g1 g2 g3 hg hF
          generalize moreD s t = s' at *
          rintro e w4 ⟨x1, x2, rfl, r1, r2, hb4⟩
          dsimp only [dv] at r1 r2 ⊢
          clear C0 C1 C2 T0 T1 T2 T3
          obtain ⟨b3, d3, rfl, -, -⟩ := row_at r1
          obtain ⟨b4, d4, rfl, -, -⟩ := row_at r2
          have hbE := hb4.alloc hb4.size (dob s'.cap (.slice b3 s'.used.length d3) (.slice b4 s'.adv.length d4))
          have hK5 := hK1.give hbE s' _ _ (r1.alloc _) (r2.alloc _)
          have hKE := hK1.on hbE
          have hE : (w4.alloc (dob s'.cap (.slice b3 s'.used.length d3) (.slice b4 s'.adv.length d4))).heap[w4.heap.size]? = some (dob s'.cap (.slice b3 s'.used.length d3) (.slice b4 s'.adv.length d4)) := heap_alloc_at _ _ _ rfl
          have hAE := (hbE.block _ (lt_of_block hA)).trans hA
          have hAC : A ≠ C := by
            intro h
            rw [h, hK1.sb] at hA
            simp [dob] at hA
          have hCE : C ≠ w4.heap.size := by have := hK1.ltC; have := hb4.size; omega
          have hA5 := (put3_other (w4.alloc (dob s'.cap (.slice b3 s'.used.length d3) (.slice b4 s'.adv.length d4))) C A s'.cap (.slice b3 s'.used.length d3) (.slice b4 s'.adv.length d4) hAC).trans hAE
          unfold dob at hbE hK5 hKE hE hAE hA5
          clear hK1 hA hb4 r1 r2
          go_upto_region 12 with fail
          generalize w4.alloc (.cells #[.int .i64 s'.cap, .slice b3 s'.used.length d3, .slice b4 s'.adv.length d4] 61) = WE at *
          generalize w4.heap.size = E at *
          obtain ⟨E0, E1, E2⟩ := dob_cells hE
          obtain ⟨C0, C1, C2⟩ := dob_cells hKE.sb
          obtain ⟨Z0, Z1, Z2⟩ := dob_free hKE.sb
          unfold put3 at hK5 hA5
          clear hKE hE hAE
          go_upto_region 13 with fail
          generalize ((WE.setCell ⟨C, 0, none⟩ (.int .i64 s'.cap)).setCell ⟨C, 1, none⟩ (.slice b3 s'.used.length d3)).setCell ⟨C, 2, none⟩ (.slice b4 s'.adv.length d4) = W5 at *
          clear C0 C1 C2 Z0 Z1 Z2 E0 E1 E2 hbE
          obtain ⟨T0, T1, T2, T3⟩ := aob_cells hA5
          have hK6 := hK5.on (below_alloc W5 (aob t))
          have hA6 : (W5.alloc (aob t)).heap[W5.heap.size]? = some (aob t) := heap_alloc_at _ _ _ rfl
          have hlen : s.adv.length ≤ 20 := hF0.out.right.a20
          have hz6 := hK6.bel.size
          have hz5 := hK5.bel.size
          unfold aob at hK6 hA6 hz6
          clear hK5 hA5
          go_wp2_with (at_builtin; refine wpList_append elemA _ rfl _ _ rfl w.heap.size _ _ rfl hK6.rg (some ⟨W5.heap.size, 0, none⟩) 1 1 [t] rfl rfl (lies_one hA6 rfl _) ?c3 ?c4 ?c5 ?_)
          case c3 => simp [maxLen]; omega
          case c4 => first | omega | (simp; omega)
          case c5 => first | exact hz6 | omega | (simp; omega)
          intro v7 w7 hrow7 hgrow7 hat7 _
          rw [← hAd.out] at hrow7
          have hK7 := hK6.more hgrow7 hrow7 (by simpa using hat7)
          clear hK6 hA6 hrow7 hgrow7 hat7 T0 T1 T2 T3
          go_wp2
          go_roundw
          case rel => exact ⟨k + 1, s', _, _, by omega, by go_num, hF2, hK7⟩
          case measure => simp [intOf]; omega
        · have hne : ((giveD s t).2 != 0) = true := by simpa using hg
          clear hg
          generalize giveD s t = P at *
          obtain ⟨p, r⟩ := P
          rintro e w4 ⟨x1, x2, rfl, r1, r2, hb4⟩
          obtain ⟨b3, d3, rfl, -, -⟩ := row_at r1
          obtain ⟨b4, d4, rfl, -, -⟩ := row_at r2
          dsimp only [dv] at hne ⊢
          have hK4 := hK1.on hb4
          have hK5 := hK4.on (below_alloc w4 (dob p.cap (.slice b3 p.used.length d3) (.slice b4 p.adv.length d4)))
          unfold dob at hK5
          clear C0 C1 C2 T0 T1 T2 T3 hK1 hA hb4 r1 r2 hK4
          go_wp2
          go_roundw
          case rel => exact ⟨k + 1, s, _, _, by omega, by go_num, hF, hK5⟩
          case measure => simp [intOf]; omega
      · obtain ⟨ag, dg, rfl, -, hlg⟩ := row_at hK.rg
        obtain ⟨b3, d3, hv1, -, hl1⟩ := row_at hK.r1
        obtain ⟨b4, d4, hv2, -, -⟩ := row_at hK.r2
        subst hv1 hv2
        have R := hF.out.right
        have a20 := R.a20
        have hcap := hid hF.out.cap
        have hlen := hid hF.out.len
        clear hF
        go_wp2
        go_loopw [52] (fun i wr => ∃ k : Nat, k ≤ n ∧ i = .int .i64 k ∧ Below W.heap.size W wr) (fun i _ => n - (intOf i).toNat)
        case atStart => exact ⟨0, Nat.zero_le _, rfl, Below.refl _ _⟩
        case round =>
          obtain ⟨q, hq, rfl, hb⟩ := hrel
          generalize wr = W1 at *
          by_cases hlt : q < n
          · have hlt' : (q : Int) < n := by omega
            have hqs : q < s.used.length := by rw [hlen.out]; exact hlt
            obtain ⟨y1, y2⟩ := R.fit q hqs
            go_wp2
            go_loopw [15, 57] (fun v i wr => ∃ j : Nat, j ≤ s.adv.length ∧ i = .int .i64 j ∧ v = .int .i64 (sumOf (q : Int) (s.adv.take j)) ∧ Below W.heap.size W wr) (fun _ i _ => s.adv.length - (intOf i).toNat)
            case atStart => exact ⟨0, Nat.zero_le _, rfl, rfl, hb⟩
            case round =>
              clear hb
              obtain ⟨j, hj, rfl, rfl, hb⟩ := hrel
              generalize wr = W2 at *
              by_cases hjl : j < s.adv.length
              · have hjl' : (j : Int) < s.adv.length := by omega
                obtain ⟨b5, off5, rfl, hbl5, e1, e2, e3, e4⟩ := ad_cells (hlg.below hb) hjl
                have HS := hid (sumOf_step' hjl (q : Int))
                obtain ⟨z1, z2⟩ := R.adv.small a20 (q : Int) j
                have hft := R.adv j hjl
                have z3 := hft.2.2.2.2.1
                have z4 := hft.2.2.2.2.2.1
                clear hft y1 y2
                have hb1 := hb.alloc hb.size (aob (s.adv.getD j zA))
                unfold aob at hb1
                generalize s.adv.getD j zA = t at *
                generalize sumOf (q : Int) (s.adv.take j) = y at *
                by_cases hcj : t.c = (q : Int)
                · rw [if_pos hcj] at HS
                  have hcj' : (t.c == (q : Int)) = true := by simpa using hcj
                  clear hcj
                  go_wp2
                  go_roundw
                  case rel => exact ⟨j + 1, by omega, by go_num, by rw [HS.out], hb1⟩
                  case measure => simp [intOf]; omega
                · rw [if_neg hcj] at HS
                  have hcj' : (t.c == (q : Int)) = false := by simpa using hcj
                  clear hcj
                  go_wp2
                  go_roundw
                  case rel => exact ⟨j + 1, by omega, by go_num, by rw [HS.out, Int.add_zero], hb1⟩
                  case measure => simp [intOf]; omega
              · have hje : j = s.adv.length := by omega
                subst hje
                rw [List.take_length]
                have hKb := hK.on hb
                obtain ⟨b6, off6, rfl, hbl6, x1⟩ := int_cell (hl1.below hb) hqs
                obtain ⟨C0, C1, C2⟩ := dob_cells hKb.sb
                rw [hlen.out] at C1
                rw [y1] at x1
                rw [hcap.out] at y2
                clear y1 hKb
                generalize sumOf (q : Int) s.adv = y at *
                go_wp2
                go_roundw
                case rel => exact ⟨q + 1, by omega, by go_num, hb⟩
                case measure => simp [intOf]; omega
          · have hKb := hK.on hb
            have HW := hid R.wrong
            obtain ⟨C0, C1, C2⟩ := dob_cells hKb.sb
            go_wp2_with fail
            refine (same_any 0 _ _ _ _ [] s.adv _ (at_nil _ _) (Row.at hKb.rg) (at_nil _ _) (Row.at hKb.r2)).mono ?_
            rintro e w5 ⟨rfl, hb5⟩
            have hK5 := hKb.on hb5
            clear C0 C1 C2 hKb hb5
            obtain ⟨C0, C1, C2⟩ := dob_cells hK5.sb
            go_wp2_with fail
            refine (wrong_any s _ _ _ (Row.at hK5.r1) (Row.at hK5.r2)).mono ?_
            rw [HW.out]
            rintro e w6 ⟨rfl, hb6⟩
            have bb := (hK5.on hb6).bel
            go_wp2
            go_ret
            exact ⟨rfl, bb⟩
  all_goals
    rw [H.out]
    rintro e w2 ⟨x1, x2, rfl, r1, r2, hb2⟩
    have k1 := Row.at r1
    have k2 := Row.at r2
    obtain ⟨b1, d1, rfl, -, -⟩ := row_at r1
    obtain ⟨b2, d2, rfl, -, -⟩ := row_at r2
    dsimp only [dv, zD, List.length_nil] at k1 k2 ⊢
    have hb3 := hb1.trans (hb2.mono hb1.size)
    have k3 := k1.below (below_alloc w2 (dob 0 (.slice b1 0 d1) (.slice b2 0 d2)))
    have k4 := k2.below (below_alloc w2 (dob 0 (.slice b1 0 d1) (.slice b2 0 d2)))
    have hb4 := hb3.alloc hb3.size (dob 0 (.slice b1 0 d1) (.slice b2 0 d2))
    have hE : (w2.alloc (dob 0 (.slice b1 0 d1) (.slice b2 0 d2))).heap[w2.heap.size]? = some (dob 0 (.slice b1 0 d1) (.slice b2 0 d2)) := heap_alloc_at _ _ _ rfl
    unfold dob at k3 k4 hb4 hE
    clear r1 r2 hb1 hb2 hb3 k1 k2
    go_upto_region 4 with fail
    generalize w2.alloc (.cells #[.int .i64 0, .slice b1 0 d1, .slice b2 0 d2] 61) = W3 at *
    generalize w2.heap.size = C at *
    obtain ⟨C0, C1, C2⟩ := dob_cells hE
    go_wp2_with fail
    refine (same_any 0 _ _ _ _ [] [] _ k3 k4 (at_nil _ _) (at_nil _ _)).mono ?_
    rintro e w5 ⟨rfl, hb5⟩
    have bb := hb4.trans (hb5.mono hb4.size)
    go_wp2
    go_ret
    exact ⟨rfl, bb⟩
end Go.Proofs.Ytmhcdiimamadfab.St
