/- The walk of the document's Post: its four loops. -/
import Derived.Test.YtabbjhibmeaaaaaWalkj
namespace Go.Proofs.Ytabbjhibmeaaaaa
open Go.RowKit

set_option maxHeartbeats 4000000 in
theorem refPost_main (a : Option Addr) (cap : Nat) (l : List (Int × Int)) (a2 : Option Addr) (cap2 : Nat) (E : List (Int × Int)) (w : World) (hl : Ents w a l) (hE : Ents w a2 E) (hw : (wrong l).1 = 0) (hfew2 : E.length ≤ 10) :
    Calls Try.prog 11 #[.slice a l.length cap, .slice a2 E.length cap2] w fun e w' => Answers w (post l E) e w' := by
  have HR := hid (wrong_ok.1 hw)
  have hne : ((wrong l).1 != 0) = false := by simpa using hw
  have hfew : l.length ≤ 58 := HR.out.few
  have hf' : (E.length : Int) ≤ 10 := by omega
  obtain ⟨i0, hi, hz0, hz1, hz2⟩ := info_parts info35
  clear hw
  go_enter Try.func11, Try.ntmps11
  go_wp2_with fail
  refine (refWrong_any _ _ _ _ hl).mono ?_
  rintro e w1 ⟨rfl, hb1⟩
  have hb2 : ∀ o, Below w.heap.size w (w1.alloc o) := fun o => hb1.alloc hb1.size o
  obtain ⟨hm, hl⟩ := hl
  obtain ⟨hm2, hE⟩ := hE
  unfold maxLen at hm hm2
  generalize hrr : (wrong l).1 = r at *
  generalize (wrong l).2 = r2 at *
  clear hrr
  go_wp2
  go_loopw [7, 30] (fun t i wr => ∃ (k : Nat) (tot : Int), k ≤ E.length ∧ i = .int .i64 k ∧ t = .int .i64 tot ∧ -10000000000000 ≤ tot ∧ tot ≤ 10000000000000 ∧ Hid (GoodE E k tot) ∧ Below w.heap.size w wr) (fun _ i _ => E.length - (intOf i).toNat)
  case atStart => exact ⟨0, 0, Nat.zero_le _, rfl, rfl, by omega, by omega, goodE_zero E, hb2 _⟩
  case round =>
    clear hb1 hb2
    obtain ⟨k, tot, hk, rfl, rfl, t1, t2, hg, hb⟩ := hrel
    have s1 := hb.size
    by_cases hlt : k < E.length
    · rcases hE with rfl | ⟨b, off, rfl, hbl, hcell⟩
      · simp at hlt
      obtain ⟨c1, c2⟩ := hcell k hlt
      have hlt' : (k : Int) < E.length := by omega
      have e1 := (hb.cell (p := ⟨b, off + k * 2, none⟩) hbl).trans c1
      have e2 := (hb.cell (p := ⟨b, off + k * 2 + 1, none⟩) hbl).trans c2
      have G := fun h => hg.out.range hlt h
      have G4 := fun h => hg.out.next hlt h
      clear c1 c2 hcell hg
      generalize E.getD k (0, 0) = x at *
      obtain ⟨x1, x2⟩ := x
      dsimp only at e1 e2 G4
      by_cases hr : inR (x1, x2) = false
      · have HG := hid (G hr)
        have ho := inR_false hr
        clear G G4 hr
        rcases ho with ho | ⟨ho, ho1⟩ | ⟨ho, ho1, ho2⟩ | ⟨ho, ho1, ho2, ho3⟩
        all_goals
          go_wp2
          go_ret2
          unfold Answers
          rw [post_entries (wrong_ok.2 HR.out) (by rw [wrongEs_few hfew2, HG.out]; decide), wrongEs_few hfew2, HG.out]
          exact ⟨none, 0, rfl, ents_nil _ _, hb.alloc s1 _⟩
      · have hr : inR (x1, x2) = true := by simpa using hr
        have HG := hid (G4 hr)
        obtain ⟨ra, rb, rc, rd⟩ := inR_true.1 hr
        dsimp only at ra rb rc rd
        have tb1 := HG.out.lo
        have tb2 := HG.out.hi
        have T1 : -10000000000000 ≤ tot + x2 := by omega
        have T2 : tot + x2 ≤ 10000000000000 := by omega
        clear G G4 hr tb1 tb2
        go_wp2
        go_roundw
        case rel => exact ⟨k + 1, tot + x2, by omega, by go_num, rfl, T1, T2, HG, hb.alloc s1 _⟩
        case measure => simp [intOf]; omega
    · by_cases hz : tot = 0
      · have HG := hid (hg.out.done (by omega) hz)
        have hz' : (tot != 0) = false := by simpa using hz
        clear hz hg
        have HB := hid (Sums.born wr)
        have hb3 : Below w.heap.size w (wr.alloc (.cells (row58 fun _ => 0) 44)) := hb.alloc s1 _
        clear hb
        have HE := hid (wrongEs_ok.1 ((wrongEs_few hfew2).trans HG.out))
        have HE0 := hid ((wrongEs_few hfew2).trans HG.out)
        clear HG t1 t2
        have hSw : w.heap.size ≤ wr.heap.size := s1
        go_wp2
        generalize wr.heap.size = S at *
        go_loopw [61] (fun i wr2 => ∃ (k : Nat) (g : Nat → Int), k ≤ l.length ∧ i = .int .i64 k ∧ Hid (SetL l k g) ∧ Sums wr2 S g ∧ Below w.heap.size w wr2) (fun i _ => l.length - (intOf i).toNat)
        case atStart => exact ⟨0, zeroF, Nat.zero_le _, rfl, setL_zero l, HB.out, hb3⟩
        case round =>
          clear HB hb3
          obtain ⟨k2, g, hk2, rfl, hg, hs, hb⟩ := hrel
          have s2 := hb.size
          have hS := hs.lt
          by_cases hlt : k2 < l.length
          · rcases hl with rfl | ⟨b, off, rfl, hbl, hcell⟩
            · simp at hlt
            obtain ⟨c1, c2⟩ := hcell k2 hlt
            have hlt' : (k2 : Int) < l.length := by omega
            have e1 := (hb.cell (p := ⟨b, off + k2 * 2, none⟩) hbl).trans c1
            have e2 := (hb.cell (p := ⟨b, off + k2 * 2 + 1, none⟩) hbl).trans c2
            have hr := (HR.out.all _ (getD_mem hlt)).1
            have HG := hid (hg.out.next hlt hr)
            clear c1 c2 hcell hg
            generalize l.getD k2 (0, 0) = x at *
            obtain ⟨ra, rb, rc, rd⟩ := inR_true.1 hr
            obtain ⟨x1, x2⟩ := x
            dsimp only at e1 e2 ra rb rc rd HG
            obtain ⟨i, rfl⟩ := Int.eq_ofNat_of_zero_le ra
            have hi58 : i < 58 := by omega
            have c0 := hs.cell hi58
            have z0 := hs.frozen i
            have c1 : ∀ o, (wr.alloc o).cell? ⟨S, i, none⟩ = some (.int .i64 (g i)) := fun o => (World.cell?_alloc_past _ _ _ hS).trans c0
            have z1 : ∀ o, (wr.alloc o).frozen? ⟨S, i, none⟩ = false := fun o => (World.frozen?_alloc_past _ _ _ hS).trans z0
            have HS := hid (hs.set i x2)
            clear hr hs
            go_wp2
            go_roundw
            case rel =>
              refine ⟨k2 + 1, _, by omega, by go_num, HG, ?_, (hb.setCell (p := ⟨S, i, none⟩) hSw (.int .i64 x2)).alloc (by simp; omega) _⟩
              exact HS.out.below ((Below.refl (S + 1) _).alloc (by simp; omega) _) (by omega)
            case measure => simp [intOf]; omega
          · have HF := hid ((HR.out.set.symm).trans (hg.out.done (by omega)))
            have hsm : ∀ i, -58000000000000 ≤ g i ∧ g i ≤ 58000000000000 := fun i => by have := hg.out.small i; omega
            have HA := hid (addAll_zero E hsm)
            clear hg hsm hl
            go_wp2
            go_loopw [73] (fun i wr2 => ∃ (k : Nat) (g2 : Nat → Int), k ≤ E.length ∧ i = .int .i64 k ∧ Hid (AddAll g E k g2) ∧ Sums wr2 S g2 ∧ Below w.heap.size w wr2) (fun i _ => E.length - (intOf i).toNat)
            case atStart => exact ⟨0, g, Nat.zero_le _, rfl, HA, hs, hb⟩
            case round =>
              clear hs hb hS s2 HA
              obtain ⟨j, g2, hj, rfl, hg2, hs, hb⟩ := hrel
              have s2 := hb.size
              have hS := hs.lt
              by_cases hlt2 : j < E.length
              · rcases hE with rfl | ⟨b, off, rfl, hbl, hcell⟩
                · simp at hlt2
                obtain ⟨c1, c2⟩ := hcell j hlt2
                have hlt' : (j : Int) < E.length := by omega
                have e1 := (hb.cell (p := ⟨b, off + j * 2, none⟩) hbl).trans c1
                have e2 := (hb.cell (p := ⟨b, off + j * 2 + 1, none⟩) hbl).trans c2
                have hr := HE.out.2.1 _ (getD_mem hlt2)
                have HG := hid (hg2.out.next hlt2 hr)
                have HM := hid (hg2.out.much hlt2)
                have HB := hid (fun i => hg2.out.small i)
                clear c1 c2 hcell hg2
                generalize E.getD j (0, 0) = x at *
                obtain ⟨ra, rb, rc, rd⟩ := inR_true.1 hr
                obtain ⟨x1, x2⟩ := x
                dsimp only at e1 e2 ra rb rc rd HG HM
                obtain ⟨i, rfl⟩ := Int.eq_ofNat_of_zero_le ra
                rw [Int.toNat_natCast] at HG HM
                have hi58 : i < 58 := by omega
                have c0 := hs.cell hi58
                have z0 := hs.frozen i
                obtain ⟨y1, y2⟩ := HB.out i
                have HS := hid (hs.set i (g2 i + x2))
                generalize g2 i = y at *
                have Y1 : -68000000000000 ≤ y := by omega
                have Y2 : y ≤ 68000000000000 := by omega
                have c1 : ∀ o, (wr.alloc o).cell? ⟨S, i, none⟩ = some (.int .i64 y) := fun o => (World.cell?_alloc_past _ _ _ hS).trans c0
                have z1 : ∀ o, (wr.alloc o).frozen? ⟨S, i, none⟩ = false := fun o => (World.frozen?_alloc_past _ _ _ hS).trans z0
                clear hr hs y1 y2 HB
                cases ht : inTot (y + x2) with
                | true =>
                  have HG' := hid (HG.out ht)
                  obtain ⟨q1, q2⟩ := inTot_true.1 ht
                  clear HG HM ht
                  go_wp2
                  go_region
                  go_wp2
                  go_roundw
                  case rel =>
                    refine ⟨j + 1, _, by omega, by go_num, HG', ?_, ((hb.setCell (p := ⟨S, i, none⟩) hSw (.int .i64 (y + x2))).alloc (by simp; omega) _).drew⟩
                    exact HS.out.below ((Below.refl (S + 1) _).alloc (by simp; omega) _).drew (by omega)
                  case measure => simp [intOf]; omega
                | false =>
                  have HG' := hid (HM.out ht)
                  have hq := inTot_false.1 ht
                  have hq : 1000000000000 < y + x2 ∨ (y + x2 ≤ 1000000000000 ∧ y + x2 < -1000000000000) := by omega
                  clear HG HM ht
                  rcases hq with q1 | ⟨q1, q2⟩
                  all_goals
                    go_wp2
                    go_region
                    go_wp2
                    go_ret2
                    unfold Answers
                    rw [post_much (wrong_ok.2 HR.out) HE0.out (by rw [HF.out]; exact HG'.out)]
                    exact ⟨none, 0, rfl, ents_nil _ _, ((hb.setCell (p := ⟨S, i, none⟩) hSw (.int .i64 (y + x2))).alloc (by simp; omega) _).drew⟩
              · have HP := hid (post_done (wrong_ok.2 HR.out) HE0.out (by rw [HF.out]; exact hg2.out.done (by omega)))
                clear hg2 hE
                go_wp2_with (refine wpList_load_row rfl 44 _ rfl S rfl 44 _ (0, 0) _ hs Try.underlying44 rfl (by rw [row58_size]; exact size44) ?_)
                go_loopw [15, 101] (fun v i wr2 => ∃ k : Nat, k ≤ 58 ∧ i = .int .i64 k ∧ wr2.ownsRow w.heap.size 35 2 v (listE g2 k).length (flat (listE g2 k)) ∧ Below w.heap.size w wr2) (fun _ i _ => 58 - (intOf i).toNat)
                case atStart => exact ⟨0, by omega, rfl, World.ownsRow_nil _ _ _ _, hb⟩
                case round =>
                  clear hs hb hS s2
                  obtain ⟨k, hk, rfl, hown, hb⟩ := hrel
                  by_cases hlt : k < 58
                  · have hlt' : (k : Int) < 58 := by omega
                    have hix := index44 g2 k hlt
                    have hle := listE_le g2 k
                    by_cases hz : g2 k = 0
                    · have hz' : (g2 k != 0) = false := by simpa using hz
                      have HM := hid (listE_miss g2 k hz)
                      clear hz
                      go_wp2
                      go_roundw
                      case rel => exact ⟨k + 1, by omega, by go_num, by rw [HM.out]; exact hown, hb⟩
                      case measure => simp [intOf]; omega
                    · have hz' : (g2 k != 0) = true := by simpa using hz
                      have HM := hid (listE_hit g2 k hz)
                      clear hz
                      generalize g2 k = y at *
                      go_wp2_with (at_builtin; refine wpList_append_own _ rfl _ _ 22 rfl w.heap.size 35 i0 (.agg #[.int .i64 0, .int .i64 0]) 2 16 Try.underlying22 hi hz0 hz1 hz2 rfl (by decide) _ _ _ rfl (hown.alloc _) ⟨wr.heap.size, 0, none⟩ 1 1 [.int .i64 k, .int .i64 y] rfl rfl ?c1 ?c2 ?c3 ?c4 ?c5 ?_)
                      case c1 => exact cell_two_new _ _ _ _
                      case c2 => intro u hu; simp at hu; rcases hu with rfl | rfl <;> rfl
                      case c3 => unfold maxLen; omega
                      case c4 => omega
                      case c5 => have := hb.size; simp; omega
                      intro v' w1 hown' hgrow _
                      have hb' : Below w.heap.size w w1 := (hb.alloc hb.size _).grown hgrow (by have := hb.size; simp; omega) (ownBlock_ge hown)
                      clear hgrow hown
                      go_wp2
                      go_roundw
                      case rel => exact ⟨k + 1, by omega, by go_num, by rw [HM.out, flat_snoc, List.length_append]; exact hown', hb'⟩
                      case measure => simp [intOf]; omega
                  · have hk58 : k = 58 := by omega
                    subst hk58
                    obtain ⟨a5, cap5, hv, hent⟩ := ents_of_owns hown
                    rw [hv]
                    clear hown hv
                    go_wp2
                    go_ret2
                    unfold Answers
                    rw [HP.out]
                    exact ⟨a5, cap5, rfl, hent, hb⟩
      · have HG := hid (hg.out.fit (by omega) hz)
        have hz' : (tot != 0) = true := by simpa using hz
        clear hz hg
        go_wp2
        go_ret2
        unfold Answers
        rw [post_entries (wrong_ok.2 HR.out) (by rw [wrongEs_few hfew2, HG.out]; decide), wrongEs_few hfew2, HG.out]
        exact ⟨none, 0, rfl, ents_nil _ _, hb⟩
end Go.Proofs.Ytabbjhibmeaaaaa
