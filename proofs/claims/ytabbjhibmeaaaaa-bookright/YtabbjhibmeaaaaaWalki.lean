/- The walk of the law BookRight: whatever the book, the entries and the account, it answers true, and writes nothing that was there. -/
import Derived.Test.YtabbjhibmeaaaaaWalkh
import Derived.Test.YtabbjhibmeaaaaaMathd
namespace Go.Proofs.Ytabbjhibmeaaaaa
open Go.RowKit

set_option maxHeartbeats 1000000 in
theorem right_no (a : Option Addr) (cap : Nat) (l : List (Int × Int)) (a2 : Option Addr) (cap2 : Nat) (E : List (Int × Int)) (acc : Int) (w : World) (hl : Ents w a l) (hE : Ents w a2 E) (hn : (post l E).2 ≠ 0) :
    Calls Try.prog 4 #[.slice a l.length cap, .slice a2 E.length cap2, .int .i64 acc] w fun e w' => e = .returned (.bool true) ∧ Below w.heap.size w w' := by
  have HN := hid (post_none hn)
  have hne : ((post l E).2 != 0) = true := by simpa using hn
  clear hn
  go_enter Try.func4, Try.ntmps4
  go_wp2_with fail
  refine (alive_any _).mono ?_
  rintro e w1 ⟨rfl, hb1⟩
  go_wp2_with fail
  refine (post_any a cap l a2 cap2 E w1 (hl.below hb1) (hE.below hb1)).mono ?_
  intro e w2 hA
  obtain ⟨a3, cap3, rfl, hE3, hb2⟩ := Answers.up hb1 hA
  rw [HN.out]
  clear hA hE3
  generalize (post l E).2 = r at *
  go_wp2
  go_ret
  exact ⟨rfl, hb2⟩

set_option maxHeartbeats 1000000 in
theorem right_yes (a : Option Addr) (cap : Nat) (l : List (Int × Int)) (a2 : Option Addr) (cap2 : Nat) (E L : List (Int × Int)) (acc : Int) (w : World) (hl : Ents w a l) (hE : Ents w a2 E) (hn : post l E = (L, 0)) :
    Calls Try.prog 4 #[.slice a l.length cap, .slice a2 E.length cap2, .int .i64 acc] w fun e w' => e = .returned (.bool true) ∧ Below w.heap.size w w' := by
  obtain ⟨q1, q2, q3, q4⟩ := post_right hn
  have HR := hid (wrong_ok.1 q1)
  have HE := hid (wrongEs_ok.1 q2)
  have HW := hid q3
  have HG := hid (q4 acc)
  have hfew : E.length ≤ 10 := HE.out.1
  obtain ⟨y1, y2⟩ := getE_tot HR.out acc
  clear q1 q2 q3 q4
  have hfd := field25
  go_enter Try.func4, Try.ntmps4
  go_wp2_with fail
  refine (alive_any _).mono ?_
  rintro e w1 ⟨rfl, hb1⟩
  go_wp2_with fail
  refine (post_any a cap l a2 cap2 E w1 (hl.below hb1) (hE.below hb1)).mono ?_
  intro e w2 hA
  rw [hn] at hA
  obtain ⟨a3, cap3, rfl, hE3, hb2⟩ := Answers.up hb1 hA
  clear hA
  go_wp2_with fail
  refine (get_any a cap l acc w2 (hl.below hb2)).mono ?_
  rintro e w3 ⟨rfl, hb3⟩
  have hE4 := hE3.below hb3
  have hb13 := hb2.trans (hb3.mono hb2.size)
  have hs13 := hb13.size
  generalize getE l acc = y at *
  clear hb2 hb3 hb1 hE3 hn
  go_wp2
  go_loopw [9, 30] (fun n i wr => ∃ (k : Nat) (s : Int), k ≤ E.length ∧ i = .int .i64 k ∧ n = .int .i64 (y + s) ∧ -10000000000000 ≤ s ∧ s ≤ 10000000000000 ∧ Hid (Gave acc E k s) ∧ Below w3.heap.size w3 wr) (fun _ i _ => E.length - (intOf i).toNat)
  case atStart => exact ⟨0, 0, Nat.zero_le _, rfl, by simp, by omega, by omega, gave_zero acc E, Below.refl _ _⟩
  case round =>
    obtain ⟨k, s, hk, rfl, rfl, t1, t2, hg, hb⟩ := hrel
    have s1 := hb.size
    by_cases hlt : k < E.length
    · obtain ⟨hm, hE⟩ := hE
      unfold maxLen at hm
      rcases hE with rfl | ⟨b, off, rfl, hbl, hcell⟩
      · simp at hlt
      obtain ⟨c1, c2⟩ := hcell k hlt
      have hbw := hb13.trans (hb.mono hs13)
      have hlt' : (k : Int) < E.length := by omega
      have e1 := (hbw.cell (p := ⟨b, off + k * 2, none⟩) hbl).trans c1
      have e2 := (hbw.cell (p := ⟨b, off + k * 2 + 1, none⟩) hbl).trans c2
      have hr := HE.out.2.1 _ (getD_mem hlt)
      have G1 := fun h => hg.out.hit hlt hr h
      have G2 := fun h => hg.out.miss hlt h
      clear c1 c2 hcell hg
      generalize E.getD k (0, 0) = x at *
      obtain ⟨ra, rb, rc, rd⟩ := inR_true.1 hr
      obtain ⟨x1, x2⟩ := x
      dsimp only at e1 e2 ra rb rc rd G1 G2
      by_cases hq : x1 = acc
      · have HQ := hid (G1 hq)
        have hq' : (x1 == acc) = true := by simpa using hq
        have u1 := HQ.out.lo
        have u2 := HQ.out.hi
        have T1 : -10000000000000 ≤ s + x2 := by omega
        have T2 : s + x2 ≤ 10000000000000 := by omega
        clear G1 G2 hq hr u1 u2
        go_wp2
        go_roundw
        case rel => exact ⟨k + 1, s + x2, by omega, by go_num, by rw [Int.add_assoc], T1, T2, HQ, hb.alloc s1 _⟩
        case measure => simp [intOf]; omega
      · have HQ := hid (G2 hq)
        have hq' : (x1 == acc) = false := by simpa using hq
        clear G1 G2 hq hr
        go_wp2
        go_roundw
        case rel => exact ⟨k + 1, s, by omega, by go_num, rfl, t1, t2, HQ, hb.alloc s1 _⟩
        case measure => simp [intOf]; omega
    · have HD := hid (hg.out.done (by omega))
      have hE5 := hE4.below hb
      have hbw := hb13.trans (hb.mono hs13)
      clear hg hE hb
      go_wp2_with fail
      refine (wrong_any a3 cap3 L _ hE5).mono ?_
      rintro e w4 ⟨rfl, hb4⟩
      rw [HW.out]
      have hE6 := hE5.below hb4
      have hb14 := hbw.trans (hb4.mono hbw.size)
      generalize (wrong L).2 = at2 at *
      go_wp2_with fail
      refine (get_any a3 cap3 L acc _ hE6).mono ?_
      rintro e w5 ⟨rfl, hb5⟩
      rw [HG.out, HD.out]
      go_wp2
      go_ret
      exact ⟨rfl, hb14.trans (hb5.mono hb14.size)⟩

theorem right_any (a : Option Addr) (cap : Nat) (l : List (Int × Int)) (a2 : Option Addr) (cap2 : Nat) (E : List (Int × Int)) (acc : Int) (w : World) (hl : Ents w a l) (hE : Ents w a2 E) :
    Calls Try.prog 4 #[.slice a l.length cap, .slice a2 E.length cap2, .int .i64 acc] w fun e w' => e = .returned (.bool true) ∧ Below w.heap.size w w' := by
  by_cases hn : (post l E).2 = 0
  · exact right_yes a cap l a2 cap2 E (post l E).1 acc w hl hE (by rw [← hn])
  · exact right_no a cap l a2 cap2 E acc w hl hE hn
end Go.Proofs.Ytabbjhibmeaaaaa
