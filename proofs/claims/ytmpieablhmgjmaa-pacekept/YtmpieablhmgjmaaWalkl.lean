/- The walk of the law PaceKept. -/
import Derived.Test.YtmpieablhmgjmaaWalkj
import Derived.Test.YtmpieablhmgjmaaWalki
namespace Go.Proofs.Ytmpieablhmgjmaa
open Go.RowKit

theorem own_apart {w w3 : World} {b1 b3 e1 e3 s1 s3 n1 n3 : Nat} {v v3 : Value} {xs xs3 : List Value} (h : w.ownsRow b1 e1 s1 v n1 xs) (h3 : w3.ownsRow b3 e3 s3 v3 n3 xs3) (hb : w.heap.size ≤ b3) : v3.ownBlock = none ∨ v3.ownBlock ≠ v.ownBlock := by
  rcases h3.2 with ⟨rfl, -⟩ | ⟨g3, cap3, cur3, rfl, hg3, -⟩
  · exact Or.inl rfl
  · right
    rcases h.2 with ⟨rfl, -⟩ | ⟨g, cap, cur, rfl, -, hh, -⟩
    · simp [Value.ownBlock]
    · have := lt_of_block hh
      simp [Value.ownBlock]
      omega

/-- Behind the box: the pace's block, and all that is elder. -/
theorem box {w w1 : World} {p : Pa} (hb : Below (w.alloc (.cells #[.int .i64 p.t, .int .i64 p.c, .int .i64 p.s] 55)).heap.size (w.alloc (.cells #[.int .i64 p.t, .int .i64 p.c, .int .i64 p.s] 55)) w1) :
    Below w.heap.size w w1 ∧ w.heap.size < w1.heap.size ∧ w1.heap[w.heap.size]? = some (.cells #[.int .i64 p.t, .int .i64 p.c, .int .i64 p.s] 55) := by
  have s1 := hb.size
  simp only [World.size_alloc] at s1
  refine ⟨((Below.refl _ _).alloc (Nat.le_refl _) _).trans (hb.mono (by simp)), by omega, ?_⟩
  rw [hb.block _ (by simp)]
  exact heap_alloc_at _ _ _ rfl

set_option maxHeartbeats 4000000 in
theorem kept_any (p : Pa) (a : Option Addr) (cap : Nat) (L : List (Int × Int)) (w : World) (hL : Ents w a L) :
    Calls Try.prog 12 #[pv p, .slice a L.length cap] w fun e w' => e = .returned (.bool true) ∧ Below w.heap.size w w' := by
  unfold pv
  have hm0 := hL.1
  unfold maxLen at hm0
  go_enter Try.func12, Try.ntmps12
  go_wp2_with fail
  refine (alive_any _).mono ?_
  rintro e w1 ⟨rfl, hb1⟩
  obtain ⟨bb, hs1, hp1⟩ := box hb1
  obtain ⟨P0, P1, P2⟩ := pace_cells hp1
  clear hb1
  go_wp2_with fail
  refine (wrong_any p _).mono ?_
  rintro e w2 ⟨rfl, hb2⟩
  have bb2 : Below w.heap.size w w2 := bb.trans (hb2.mono bb.size)
  have hp2 := (hb2.block _ hs1).trans hp1
  have hs2 : w.heap.size < w2.heap.size := Nat.lt_of_lt_of_le hs1 hb2.size
  have hL2 := hL.below bb2
  clear P0 P1 P2 hp1 hs1 bb hb2 hL
  by_cases h1 : wrongP p = 0
  rotate_left
  · have hne : (wrongP p != 0) = true := by simpa using h1
    clear h1
    generalize wrongP p = r at *
    go_wp2
    go_ret
    exact ⟨rfl, bb2⟩
  have hne : (wrongP p != 0) = false := by simpa using h1
  have HP := hid (wrongP_ok.1 h1)
  clear h1
  generalize wrongP p = r at *
  by_cases hf : 100 < L.length
  · have hf' : (100 : Int) < L.length := by omega
    go_wp2
    go_ret
    exact ⟨rfl, bb2⟩
  have hf0 : L.length ≤ 100 := by omega
  have hf' : (L.length : Int) ≤ 100 := by omega
  clear hf
  obtain ⟨hm, hL⟩ := hL2
  obtain ⟨i0, hi, hz0, hz1, hz2⟩ := info_parts info58
  go_wp2
  go_loopw [5, 6, 28] (fun kv v i wr => ∃ (k : Nat) (K A : List (Int × Int)) (a5 : Option Addr) (cap5 : Nat), k ≤ L.length ∧ i = .int .i64 k ∧ kv = .slice a5 K.length cap5 ∧ Ents wr a5 K ∧ wr.ownsRow w2.heap.size 58 2 v A.length (flat A) ∧ A.length ≤ k ∧ Hid (Kept p K A) ∧ Below w2.heap.size w2 wr) (fun _ _ i _ => L.length - (intOf i).toNat)
  case atStart => exact ⟨0, [], [], none, 0, Nat.zero_le _, rfl, rfl, ⟨by simp [maxLen], Or.inl rfl⟩, World.ownsRow_nil _ _ _ _, Nat.le_refl _, kept_start HP.out, Below.refl _ _⟩
  case round =>
    obtain ⟨k, K, A, a5, cap5, hk, rfl, rfl, hK, hown, hAk, HK, hb⟩ := hrel
    have hsw := hb.size
    by_cases hlt : k < L.length
    · rcases hL with rfl | ⟨b, off, rfl, hbl, hcell⟩
      · simp at hlt
      obtain ⟨e1, e2⟩ := hcell k hlt
      have hlt' : (k : Int) < L.length := by omega
      have e1 := (hb.cell (p := ⟨b, off + k * 2, none⟩) hbl).trans e1
      have e2 := (hb.cell (p := ⟨b, off + k * 2 + 1, none⟩) hbl).trans e2
      have Q := fun o => pace_cells (((hb.alloc hsw o).block _ hs2).trans hp2)
      have P0 := fun o => (Q o).1
      have P1 := fun o => (Q o).2.1
      have P2 := fun o => (Q o).2.2
      clear hcell Q
      generalize L.getD k (0, 0) = y at *
      go_wp2_with fail
      refine (add_any p a5 cap5 K y _ (hK.below (below_alloc _ _))).mono ?_
      rintro e w3 ⟨v3, rfl, hown3, hb3⟩
      have hb23 : Below w2.heap.size w2 w3 := hb.trans (below_up hsw hb3)
      have hown2 := ownsRow_below (hown.alloc _) hb3
      have hs3 := hb3.size
      simp only [World.size_alloc] at hs3
      have q0 : w3.cell? ⟨wr.heap.size, 0, none⟩ = some (.int .i64 y.1) := (hb3.cell (p := ⟨wr.heap.size, 0, none⟩) (by simp)).trans (by rw [World.cell?_alloc_at _ _ _ _ rfl]; rfl)
      have q1 : w3.cell? ⟨wr.heap.size, 1, none⟩ = some (.int .i64 y.2) := (hb3.cell (p := ⟨wr.heap.size, 1, none⟩) (by simp)).trans (by rw [World.cell?_alloc_at _ _ _ _ rfl]; rfl)
      obtain ⟨a3, cap3, rfl, -, -, hE3⟩ := ents_of_owns hown3
      have hap := own_apart hown hown3 (by simp)
      by_cases hz : (addU p K y).2 = 0
      · have HK' := hid (HK.out.next hz)
        have hz' : ((addU p K y).2 != 0) = false := by simpa using hz
        clear hz hE3 hK
        generalize (addU p K y).1 = R1 at *
        generalize (addU p K y).2 = R2 at *
        go_wp2_with (at_builtin; refine wpList_append_own _ rfl _ _ 56 rfl w2.heap.size 58 i0 (.agg #[.int .i64 0, .int .i64 0]) 2 16 Try.underlying56 hi hz0 hz1 hz2 rfl (by decide) _ _ _ rfl (hown2.alloc _) ⟨w3.heap.size, 0, none⟩ 1 1 [.int .i64 y.1, .int .i64 y.2] rfl rfl ?c1 ?c2 ?c3 ?c4 ?c5 ?_)
        case c1 => exact cell_two_new _ _ _ _
        case c2 => intro u hu; simp at hu; rcases hu with rfl | rfl <;> rfl
        case c3 => unfold maxLen; omega
        case c4 => omega
        case c5 => simp; omega
        intro v' w4 hown' hgrow _
        have hb' : Below w2.heap.size w2 w4 := (hb23.alloc hb23.size _).grown hgrow (by simp; omega) (ownBlock_ge hown2)
        obtain ⟨a4, cap4, hq4, -, -, hE4⟩ := ents_of_owns ((hown3.alloc _).kept hgrow hap)
        obtain ⟨rfl, -, rfl⟩ := Value.slice.inj hq4
        clear hgrow hown2 hown3 hown hap
        go_wp2
        go_roundw
        case rel => exact ⟨k + 1, R1, A ++ [y], a3, cap3, by omega, by go_num, rfl, hE4, by rw [flat_snoc, List.length_append]; exact hown', by simp; omega, HK', hb'⟩
        case measure => simp [intOf]; omega
      · have hz' : ((addU p K y).2 != 0) = true := by simpa using hz
        have hnil := addU_refused hz
        rw [hnil]
        have hK3 := hK.below ((below_alloc _ _).trans (hb3.mono (by simp)))
        clear hz hE3 hK hown3 hap hnil hown
        generalize (addU p K y).2 = R2 at *
        go_wp2
        go_roundw
        case rel => exact ⟨k + 1, K, A, a5, cap5, by omega, by go_num, rfl, hK3, hown2, by omega, HK, hb23⟩
        case measure => simp [intOf]; omega
    · have HF := hid (HK.out.fits)
      have HR := hid (HK.out.right)
      have hA : A.length ≤ 100 := by omega
      obtain ⟨a6, cap6, rfl, hc6, hc7, hE6⟩ := ents_of_owns hown
      have hpr := (hb.block _ hs2).trans hp2
      have hsr : w.heap.size < wr.heap.size := by omega
      have bbr : Below w.heap.size w wr := bb2.trans (hb.mono (by omega))
      have tt1 := HP.out.t1
      have tt2 := HP.out.t2
      generalize wr = w5 at *
      clear hown HK hK hb hL hp2 bb2 hi hz0 hz1 hz2
      obtain ⟨-, hE⟩ := hE6
      unfold maxLen at hc7
      go_wp2
      go_loopw [52] (fun i wq => ∃ j : Nat, j ≤ A.length ∧ i = .int .i64 j ∧ Below w5.heap.size w5 wq) (fun i _ => A.length - (intOf i).toNat)
      case atStart => exact ⟨0, Nat.zero_le _, rfl, Below.refl _ _⟩
      case round =>
        obtain ⟨j, hj, rfl, hbj⟩ := hrel
        by_cases hjl : j < A.length
        · rcases hE with rfl | ⟨b, off, rfl, hbl, hcell⟩
          · simp at hjl
          have hjl' : (j : Int) < A.length := by omega
          have hjc : (j : Int) + 1 ≤ cap6 := by omega
          have hF := HF.out j hjl
          have HFc := hid hF.1
          have HFs := hid hF.2
          have hoj := (hcell j hjl).1
          have hju := inU_true.1 (HR.out _ (getD_mem hjl))
          obtain ⟨o1, o2, -, -⟩ := hju
          clear hF
          generalize (A.getD j (0, 0)).1 = oj at *
          go_wp2
          go_loopw [12, 13, 60] (fun n t i wq => ∃ m : Nat, m ≤ j + 1 ∧ i = .int .i64 m ∧ n = .int .i64 (recent (oj - p.t) (A.take m)).length ∧ t = .int .i64 (tot (recent (oj - p.t) (A.take m))) ∧ Below w5.heap.size w5 wq) (fun _ _ i _ => j + 1 - (intOf i).toNat)
          case atStart => exact ⟨0, Nat.zero_le _, rfl, by simp [recent], by simp [recent, tot], hbj⟩
          case round =>
            obtain ⟨m, hm1, rfl, rfl, rfl, hbm⟩ := hrel
            generalize wr = w6 at *
            have hs6 := hbm.size
            have hbl6 : b < w6.heap.size := by omega
            have hsr6 : w.heap.size < w6.heap.size := by omega
            have hp6 := (hbm.block _ hsr).trans hpr
            obtain ⟨P0, P1, P2⟩ := pace_cells hp6
            have ht := tot_bound (A := recent (oj - p.t) (A.take m)) fun u hu => HR.out u (List.mem_of_mem_take (recent_mem hu))
            have hn := recent_take_le (oj - p.t) A m
            by_cases hml : m < j + 1
            · have hmA : m < A.length := by omega
              have hml' : (m : Int) < (j : Int) + 1 := by omega
              obtain ⟨e1, e2⟩ := hcell m hmA
              have e1 := (hbm.cell (p := ⟨b, off + m * 2, none⟩) hbl).trans e1
              have e2 := (hbm.cell (p := ⟨b, off + m * 2 + 1, none⟩) hbl).trans e2
              have eo := (hbm.cell (p := ⟨b, off + j * 2, none⟩) hbl).trans hoj
              have EO : ∀ o, (w6.alloc o).cell? ⟨b, off + j * 2, none⟩ = some (.int .i64 oj) := fun o => (World.cell?_alloc_past _ _ _ hbl6).trans eo
              have Q0 : ∀ o, (w6.alloc o).cell? ⟨w.heap.size, 0, none⟩ = some (.int .i64 p.t) := fun o => (World.cell?_alloc_past _ _ _ hsr6).trans P0
              have hyu := inU_true.1 (HR.out _ (getD_mem hmA))
              have HH := hid (recent_hit (o := oj - p.t) hmA)
              have HM := hid (recent_miss (o := oj - p.t) hmA)
              clear P0 P1 P2
              generalize A.getD m (0, 0) = y at *
              obtain ⟨-, -, y3, y4⟩ := hyu
              by_cases hq : oj - p.t < y.1
              · have HH' := hid (HH.out hq)
                clear HH HM
                generalize hN : (recent (oj - p.t) (A.take m)) = R at *
                have t1 : 0 ≤ tot R := ht.1
                have t2 : tot R ≤ 1000000000 := by omega
                have n2 : R.length ≤ 100 := by omega
                clear ht hn
                have Ht : Hid (tot (R ++ [y]) = tot R + y.2) := tot_snoc R y
                generalize tot R = tR at *
                go_wp2
                go_quiet (fail)
                go_wp2
                go_quiet (fail)
                go_wp2
                go_roundw
                case rel => exact ⟨m + 1, by omega, by go_num, by rw [HH'.out, List.length_append]; go_num, by rw [HH'.out, Ht.out], below_drewN (hbm.alloc hs6 _) _⟩
                case measure => simp [intOf]; omega
              · have HM' := hid (HM.out hq)
                clear HH HM
                generalize hN : (recent (oj - p.t) (A.take m)) = R at *
                have hq' : y.1 ≤ oj - p.t := by omega
                clear ht hn hq
                generalize hT : tot R = tR at *
                have HT := hid hT
                clear hT
                go_wp2
                go_quiet (fail)
                go_wp2
                go_roundw
                case rel => exact ⟨m + 1, by omega, by go_num, by rw [HM'.out], by rw [HM'.out, HT.out], below_drewN (hbm.alloc hs6 _) _⟩
                case measure => simp [intOf]; omega
            · have hmj : m = j + 1 := by omega
              subst hmj
              have hc1 := HFc.out
              have hc2 := HFs.out
              clear HFc HFs ht hn
              generalize hN : (recent (oj - p.t) (A.take (j + 1))) = R at *
              generalize tot R = tR at *
              go_wp2
              go_roundw
              case rel => exact ⟨j + 1, by omega, by go_num, hbm⟩
              case measure => simp [intOf]; omega
        · go_wp2
          go_ret
          exact ⟨rfl, bbr.trans (hbj.mono (by omega))⟩
end Go.Proofs.Ytmpieablhmgjmaa
