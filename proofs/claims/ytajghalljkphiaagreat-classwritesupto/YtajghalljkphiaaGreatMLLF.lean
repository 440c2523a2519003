/- Reading a list of api.Fields. -/
import Derived.Test.YtajghalljkphiaaGreatMGR1
namespace Go.Proofs.YtajghalljkphiaaGreat
open Go.RowKit

theorem infoLF : (Tryz.prog.info? 96).map (fun i => (i.zero, i.size, i.bytes)) = some (some (.agg #[.string ⟨#[]⟩, .int .i64 0]), 2, 24) := by kernel_rfl

set_option maxHeartbeats 2000000 in
set_option maxRecDepth 20000 in
theorem rlistF_ok {w : World} {rh : Nat} {s : ByteArray} {a : Nat} (most : Int) (hm : most ≤ 1000) (H : Rb w rh s a) (ha : a ≤ s.size) (hs : s.size ≤ maxLen) :
    Calls Tryz.prog 81 #[.pointer (some ⟨rh, 0, none⟩), .int .i64 most, .func (.func 82) #[] #[]] w (RdP (pList most pFd s a) (Ns kFdU w) s rh w) := by
  obtain ⟨i0, hi, hz0, hz1, hz2⟩ := info_parts infoLF
  have hU := rup_ok most 1404 H ha hs
  have hrh := H.lt
  have HRD : Hid (∀ u b, Rb u rh s b → b ≤ s.size → Calls Tryz.prog 82 #[.pointer (some ⟨rh, 0, none⟩)] u (RdP (pFd s b) (Nw kFdU u) s rh u)) := fun u b h1 h2 => rfd_ok h1 h2 hs
  rcases hp : pUp most 1404 s a with ⟨q, c⟩ | ⟨x, b⟩
  · rw [hp] at hU
    have HE : Hid (pList most pFd s a = .error (q, c)) := by show _ = _; unfold pList; rw [hp, bnd_err]
    clear hp HRD
    go_enter Tryz.func81, Tryz.ntmps81
    go_wp2_with (go_at_call 78; refine hU.mono ?_; rintro e w1 ⟨hb, rfl⟩)
    refine ⟨rfl, ?_⟩
    rw [HE.out]
    exact ⟨hb, rfl⟩
  · rw [hp] at hU
    obtain ⟨c1, c2, c3, c4, c5⟩ := pUp_ok hp
    have hbs : b ≤ s.size := by
      obtain ⟨m, e1, e2, _⟩ := num_back ha c1
      rw [c3, e1, Int.toNat_natCast]; exact e2
    have HS : Hid (∀ w1, Rb w1 rh s b → Bx rh w w1 → LIn kFdU 96 pFd s rh w x.toNat (pList most pFd s a) 0 (.slice none 0 0) w1) := fun w1 h1 h2 => LIn.start hp hbs h1 h2
    obtain ⟨tot, htot⟩ : ∃ t, pList most pFd s a = t := ⟨_, rfl⟩
    rw [htot] at HS ⊢
    obtain ⟨n, hn⟩ : ∃ n : Nat, x.toNat = n := ⟨_, rfl⟩
    rw [hn] at HS
    have hx : x = (n : Int) := by omega
    subst hx
    have hn2 : n ≤ 1000 := by omega
    clear hp htot c1 c2 c3 c4 c5 hn H
    go_enter Tryz.func81, Tryz.ntmps81
    go_wp2_with (go_at_call 78; refine hU.mono ?_; rintro e w1 ⟨hb, v, rfl, rfl, hR⟩; have HI0 := HS.out w1 hR hb; have HI : Hid (LIn kFdU 96 pFd s rh w n tot 0 (.slice none 0 0) w1) := HI0; clear hU hb hR HI0)
    go_loopg [7, 11] (n + 1) (fun kx t7 s11 wr => ∃ (i : Nat) (s7 : Value), s7 = t7 ∧ s11 = .int .i64 i ∧ i ≤ n ∧ n - i ≤ kx ∧ Hid (LIn kFdU 96 pFd s rh w n tot i s7 wr))
    case atStart => exact ⟨0, _, rfl, rfl, by omega, by omega, HI⟩
    case round =>
      obtain ⟨i, s7, hs7, rfl, hi2, hk, HL⟩ := hrel
      subst hs7
      by_cases hlt : i < n
      · obtain ⟨xs, b2, l1, l2, l3, l4, l5, l6, l7⟩ := HL.out.next hlt hrh
        have hC := HRD.out wr b2 l3 l2
        have hlt2 : (i : Int) < (n : Int) := by omega
        have hwz := l4.size
        rcases hq : pFd s b2 with ⟨q, c⟩ | ⟨x, c⟩
        · rw [hq] at hC
          have HE : Hid (tot = .error (q, c)) := l6 _ hq
          have H4 : Hid (Bx rh w wr) := l4
          clear l3 l4 l5 l6 l7 HRD HS HL hq HI
          go_wp2_with (go_at_call 82; refine hC.mono ?_; rintro e w1 ⟨hb, rfl⟩)
          refine ⟨rfl, ?_⟩
          rw [HE.out]
          exact ⟨H4.out.trans hb, rfl⟩
        · rw [hq] at hC
          have hcs : c ≤ s.size := (good_fd.back s b2 x c l2 hq).2.2.1
          have H7 : Hid (∀ w1, Bx rh wr w1 → Rb w1 rh s c → Gro kFdU 96 w.heap.size w1 s7 xs ∧ (∃ fs, w1.ownsRow w.heap.size 96 2 s7 i fs) ∧
      ∀ cs fs o w2 g cap, kFdU.R w1 (fun b => wr.heap.size ≤ b ∧ b < w1.heap.size) x cs → w1.ownsRow w.heap.size 96 2 s7 i fs → w2.ownsRow w.heap.size 96 2 (.slice (some ⟨g, 0, none⟩) (i + 1) cap) (i + 1) (fs ++ cs) →
        (w1.alloc o).grownBy w2 s7.ownBlock → (s7.ownBlock = some g ∨ g = (w1.alloc o).heap.size) → LIn kFdU 96 pFd s rh w n tot (i + 1) (.slice (some ⟨g, 0, none⟩) (i + 1) cap) w2) := fun w1 h1 h2 => l7 x c w1 hq hcs h1 h2
          clear l3 l4 l5 l6 l7 HRD HS HL hq HI
          go_wp2_with (first
            | (go_at_call 82; refine hC.mono ?_; rintro e w1 ⟨hb, hk⟩; obtain ⟨v, rfl, ⟨cs, hq, rfl⟩, hR⟩ := hk; have HQ : Hid (kFdU.R w1 (fun b => wr.heap.size ≤ b ∧ b < w1.heap.size) x cs) := hq; obtain rfl := hq; obtain ⟨_, ⟨fs, hfs⟩, h9⟩ := H7.out w1 hb hR; have hz9 := hb.size; have HF : Hid (w1.ownsRow w.heap.size 96 2 s7 i fs) := hfs; have H9 : Hid _ := (h9 _ fs (.cells #[.string x.nm, .int .i64 x.ty] 96) · · · HQ.out hfs); clear hC H7 hb hR h9 hfs)
            | (at_builtin; refine wpList_append_lies _ rfl _ _ 50 rfl w.heap.size 96 i0 (.agg #[.string ⟨#[]⟩, .int .i64 0]) 2 24 Tryz.underlying50 hi hz0 hz1 hz2 rfl (by decide) _ i fs rfl (HF.out.alloc _) ⟨w1.heap.size, 0, none⟩ 1 1 [.string x.nm, .int .i64 x.ty] rfl rfl (news_at _ _ _) (kFdU.one HQ.out) (by decide) (by unfold maxLen; omega) (by omega) (by simp; omega) _ rfl ?_; intro g cap w2 hown hgrow hat hlt3))
          go_roundg (n - (i + 1))
          case measure => omega
          case rel => exact ⟨i + 1, _, rfl, by go_num, by omega, by omega, H9.out _ _ _ hown hgrow hat⟩
      · obtain rfl : i = n := by omega
        have hl : ¬ (i : Int) < (i : Int) := by omega
        have HF := HL.out.fin
        clear HRD HS HL HI
        go_wp2
        go_ret
        exact HF
end Go.Proofs.YtajghalljkphiaaGreat
