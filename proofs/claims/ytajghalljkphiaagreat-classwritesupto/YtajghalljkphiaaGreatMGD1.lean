/- The document's own reader: rows that are read one by one, whatever is read; list. -/
import Derived.Test.YtajghalljkphiaaGreatMGD0
import Derived.Test.YtajghalljkphiaaGreatMLGro
import Derived.Test.YtajghalljkphiaaGreatMLLI
import Derived.Deep.AppendLies
import Derived.Test.YtajghalljkphiaaGreatMLLS
import Derived.Test.YtajghalljkphiaaGreatMLLF
namespace Go.Proofs.YtajghalljkphiaaGreat
open Go.RowKit

theorem stp_seq {α β : Type} (p : Prs α) (q : Prs β) (s : ByteArray) (t : Stt) : (stp (pSeq p q) s t).1 = (stp q s (stp p s t).1).1 ∧ ∀ z, (stp (pSeq p q) s t).2 = some z → (stp p s t).2 = some z.1 ∧ (stp q s (stp p s t).1).2 = some z.2 := by
  cases t with
  | error e => exact ⟨rfl, fun z h => by cases h⟩
  | ok a =>
    rcases hp : p s a with e | ⟨x, b⟩
    · have h : pSeq p q s a = .error e := by unfold pSeq; rw [hp, bnd_err]
      rw [stp_err h, stp_err hp]; exact ⟨rfl, fun z h => by cases h⟩
    · rcases hq : q s b with e | ⟨y, c⟩
      · have h : pSeq p q s a = .error e := by unfold pSeq; rw [hp, bnd_ok, hq, bnd_err]
        rw [stp_err h, stp_ok hp]
        show _ = (stp q s (.ok b)).1 ∧ _
        rw [stp_err hq]; exact ⟨rfl, fun z h => by cases h⟩
      · have h : pSeq p q s a = .ok ((x, y), c) := by unfold pSeq; rw [hp, bnd_ok, hq, bnd_ok]
        rw [stp_ok h, stp_ok hp]
        show _ = (stp q s (.ok b)).1 ∧ ∀ z, _ → _ ∧ (stp q s (.ok b)).2 = _
        rw [stp_ok hq]
        exact ⟨rfl, fun z h => by cases h; exact ⟨rfl, rfl⟩⟩
theorem stp_map {α β : Type} (f : α → β) (p : Prs α) (s : ByteArray) (t : Stt) : (stp (pMap f p) s t).1 = (stp p s t).1 ∧ (stp (pMap f p) s t).2 = (stp p s t).2.map f := by
  cases t with
  | error e => exact ⟨rfl, rfl⟩
  | ok a =>
    rcases hp : p s a with e | ⟨x, b⟩
    · have h : pMap f p s a = .error e := by unfold pMap; rw [hp]; rfl
      rw [stp_err h, stp_err hp]; exact ⟨rfl, rfl⟩
    · have h : pMap f p s a = .ok (f x, b) := by unfold pMap; rw [hp]; rfl
      rw [stp_ok h, stp_ok hp]; exact ⟨rfl, rfl⟩

/-- What is still to be read makes T in the end. -/
def Rem {α : Type} (T : Stt × Option (List α)) (p : Prs α) (s : ByteArray) (rem : Nat) (xs : List α) (t : Stt) : Prop := match t with
  | .error e => T = (.error e, none)
  | .ok b => T = match pMany p rem s b with
    | .ok (ys, c) => (.ok c, some (xs ++ ys))
    | .error e => (.error e, none)
section
variable {α : Type} {p : Prs α} {s : ByteArray}
theorem Rem.start {most : Int} {t : Stt} {x : Int} (hx : ∀ y, (stp (pUp most 1404) s t).2 = some y → x = y) : Rem (stp (pList most p) s t) p s x.toNat [] (stp (pUp most 1404) s t).1 := by
  cases t with
  | error e => rfl
  | ok a =>
    rcases hu : pUp most 1404 s a with e | ⟨k, b⟩
    · rw [stp_err hu]
      show stp (pList most p) s (.ok a) = _
      exact stp_err (by unfold pList; rw [hu, bnd_err])
    · rw [stp_ok hu] at hx ⊢
      obtain rfl := hx k rfl
      show stp (pList most p) s (.ok a) = _
      rcases hm : pMany p x.toNat s b with e | ⟨ys, c⟩
      · exact stp_err (by unfold pList; rw [hu, bnd_ok, hm])
      · exact stp_ok (by unfold pList; rw [hu, bnd_ok, hm]; rfl)
theorem Rem.step {T : Stt × Option (List α)} {rem : Nat} {xs : List α} {b : Nat} (h : Rem T p s (rem + 1) xs (.ok b)) {x : α} (hx : ∀ y, (stp p s (.ok b)).2 = some y → x = y) : Rem T p s rem (xs ++ [x]) (stp p s (.ok b)).1 := by
  have h' : T = match pMany p (rem + 1) s b with
    | .ok (ys, c) => (.ok c, some (xs ++ ys))
    | .error e => (.error e, none) := h
  rw [pMany_succ] at h'
  rcases hp : p s b with e | ⟨y, c⟩
  · rw [hp, bnd_err] at h'
    rw [stp_err hp]; exact h'
  · rw [hp, bnd_ok] at h'
    rw [stp_ok hp] at hx ⊢
    obtain rfl := hx y rfl
    rcases hm : pMany p rem s c with e | ⟨ys, d⟩
    · rw [hm, bnd_err] at h'
      show T = match pMany p rem s c with
        | .ok (ys, c) => (.ok c, some (xs ++ [x] ++ ys))
        | .error e => (.error e, none)
      rw [hm]; exact h'
    · rw [hm, bnd_ok] at h'
      show T = match pMany p rem s c with
        | .ok (ys, c) => (.ok c, some (xs ++ [x] ++ ys))
        | .error e => (.error e, none)
      rw [hm]
      simpa using h'
theorem Rem.fin {T : Stt × Option (List α)} {xs : List α} {t : Stt} (h : Rem T p s 0 xs t) : T.1 = t ∧ ∀ ys, T.2 = some ys → xs = ys := by
  cases t with
  | error e =>
    have h' : T = (.error e, none) := h
    rw [h']; exact ⟨rfl, fun ys hy => by cases hy⟩
  | ok b =>
    have h' : T = (.ok b, some (xs ++ [])) := h
    rw [h', List.append_nil]; exact ⟨rfl, fun ys hy => Option.some.inj hy⟩
theorem Rem.dead {T : Stt × Option (List α)} {n : Nat} {xs : List α} {e : Nat × Int} (h : Rem T p s n xs (.error e)) : T.1 = .error e ∧ ∀ ys, T.2 = some ys → xs = ys := by
  have h' : T = (.error e, none) := h
  rw [h']; exact ⟨rfl, fun ys hy => by cases hy⟩
end

/-- i are gathered, t is the reader's state. -/
def QIn {α : Type} (K : Kd α) (T : TypeId) (Z : Stt × Option (List α)) (p : Prs α) (s : ByteArray) (rh : Nat) (w : World) (N : Nat) (i : Nat) (v : Value) (wr : World) (t : Stt) : Prop :=
  ∃ xs, xs.length = i ∧ Gro K T w.heap.size wr v xs ∧ Bx rh w wr ∧ Qb wr rh s t ∧ Rem Z p s (N - i) xs t
section
variable {α : Type} {K : Kd α} {T : TypeId} {Z : Stt × Option (List α)} {p : Prs α} {s : ByteArray} {rh : Nat} {w : World} {N i : Nat} {v : Value} {wr : World}
theorem QIn.next {b : Nat} (h : QIn K T Z p s rh w N i v wr (.ok b)) (hi : i < N) (hrh : rh < w.heap.size) {w1 : World} {x : α} (hb : Bx rh wr w1) (hq : Qb w1 rh s (stp p s (.ok b)).1) (hx : ∀ y, (stp p s (.ok b)).2 = some y → x = y) :
    (∃ fs, w1.ownsRow w.heap.size T K.k v i fs) ∧ ∀ cs fs o w2 g cap, K.R w1 (fun b => wr.heap.size ≤ b ∧ b < w1.heap.size) x cs → w1.ownsRow w.heap.size T K.k v i fs → w2.ownsRow w.heap.size T K.k (.slice (some ⟨g, 0, none⟩) (i + 1) cap) (i + 1) (fs ++ cs) →
      (w1.alloc o).grownBy w2 v.ownBlock → (v.ownBlock = some g ∨ g = (w1.alloc o).heap.size) → QIn K T Z p s rh w N (i + 1) (.slice (some ⟨g, 0, none⟩) (i + 1) cap) w2 (stp p s (.ok b)).1 := by
  obtain ⟨xs, h1, h5, h4, h3, h6⟩ := h
  have hG := h5.bx hb hrh
  have hO := hG.own
  rw [h1] at hO
  refine ⟨hO, fun cs fs o w2 g cap hK hf hown hg hat => ?_⟩
  subst h1
  have hv : ∀ g, v.ownBlock = some g → g < wr.heap.size ∧ w.heap.size ≤ g := fun g hg => by
    rcases h5.shape with e | ⟨g', cap, e, hge, hlt⟩
    · rw [e] at hg; cases hg
    · rw [e] at hg
      have : g' = g := by simpa [Value.ownBlock] using hg
      omega
  have hA := hG.app hK h4.size (fun g hg => (hv g hg).1) hf hown hg hat
  have hrw : rh < w1.heap.size := hq.lt
  have hsz : (w1.alloc o).heap.size = w1.heap.size + 1 := by simp
  have hx2 := h4.trans hb
  have hz := hx2.size
  refine ⟨xs ++ [x], by simp, hA, ⟨hg.os.trans hx2.os, hg.tape.trans hx2.tape, hg.output.trans hx2.output, by have := hg.size; omega, fun k hk e => ?_⟩, hq.keep ?_, ?_⟩
  · rw [hg.block k (by omega) (fun e => by have := (hv k e.symm).2; omega), Below.heap_alloc _ _ _ (by omega)]
    exact hx2.block k hk e
  · rw [hg.block rh (by omega) (fun e => by have := (hv rh e.symm).2; omega), Below.heap_alloc _ _ _ hrw]
  · have e : N - xs.length = (N - (xs.length + 1)) + 1 := by omega
    rw [e] at h6
    exact h6.step hx
theorem QIn.fin {t : Stt} (h : QIn K T Z p s rh w N i v wr t) (he : (∃ e, t = .error e) ∨ N ≤ i) : Bx rh w wr ∧ ∃ xs, Sl K wr (fun b => w.heap.size ≤ b ∧ b < wr.heap.size) v xs ∧ Qb wr rh s Z.1 ∧ ∀ ys, Z.2 = some ys → xs = ys := by
  obtain ⟨xs, h1, h5, h4, h3, h6⟩ := h
  refine ⟨h4, xs, h5.sl, ?_⟩
  rcases he with ⟨e, rfl⟩ | he
  · obtain ⟨d1, d2⟩ := h6.dead
    rw [d1]; exact ⟨h3, d2⟩
  · rw [show N - i = 0 by omega] at h6
    obtain ⟨d1, d2⟩ := h6.fin
    rw [d1]; exact ⟨h3, d2⟩
end
theorem up_bound {most ab : Int} {s : ByteArray} {t : Stt} {b : Nat} {x : Int} (h1 : (stp (pUp most ab) s t).1 = .ok b) (h2 : ∀ y, (stp (pUp most ab) s t).2 = some y → x = y) : 0 ≤ x ∧ x ≤ most := by
  cases t with
  | error e => cases h1
  | ok a =>
    rcases hu : pUp most ab s a with e | ⟨k, c⟩
    · rw [stp_err hu] at h1; cases h1
    · rw [stp_ok hu] at h2
      obtain rfl := h2 k rfl
      unfold pUp at hu
      rcases hp : pNum s a with e | ⟨y, d⟩
      · rw [hp, bnd_err] at hu; cases hu
      · rw [hp, bnd_ok] at hu
        split at hu
        · cases hu
        · split at hu
          · cases hu
          · cases hu; omega
theorem qcode {w : World} {rh : Nat} {s : ByteArray} {t : Stt} (h : Qb w rh s t) : ∃ c : Int, w.cell? ⟨rh, 2, none⟩ = some (.int .i64 c) ∧ (c == 0) = (match t with | .ok _ => true | .error _ => false) := by
  cases t with
  | ok a => exact ⟨0, (qcell h.1).2.2.1, rfl⟩
  | error e =>
    obtain ⟨q, c⟩ := e
    obtain ⟨hc, a, h2⟩ := h
    exact ⟨c, (qcell h2).2.2.1, by rw [beq_eq_false_iff_ne]; exact hc⟩
end Go.Proofs.YtajghalljkphiaaGreat
/- The document's own reader: list. -/
namespace Go.Proofs.YtajghalljkphiaaGreat
open Go.RowKit

set_option maxHeartbeats 4000000 in
set_option maxRecDepth 20000 in
theorem qlist_any {w : World} {rh : Nat} {s : ByteArray} {t : Stt} (most : Int) (hm : most ≤ 1000) (H : Qb w rh s t) (hs : s.size ≤ maxLen) : Calls Tryz.prog 41 #[.pointer (some ⟨rh, 0, none⟩), .int .i64 most] w (QP (pList most pNum) (Ns kI w) s rh w t) := by
  obtain ⟨i0, hi, hz0, hz1, hz2⟩ := info_parts infoLI
  have hU := qup_any most 1404 (by decide) H hs
  have hrh := H.lt
  have HB : Hid (∀ b x, (stp (pUp most 1404) s t).1 = .ok b → (∀ y, (stp (pUp most 1404) s t).2 = some y → x = y) → 0 ≤ x ∧ x ≤ most) := fun b x h1 h2 => up_bound h1 h2
  have HS0 : Hid (∀ x : Int, (∀ y, (stp (pUp most 1404) s t).2 = some y → x = y) → Rem (stp (pList most pNum) s t) pNum s x.toNat [] (stp (pUp most 1404) s t).1) := fun x hx => Rem.start hx
  obtain ⟨Z, hZ⟩ : ∃ Z, stp (pList most pNum) s t = Z := ⟨_, rfl⟩
  have HZ : Hid (stp (pList most pNum) s t = Z) := hZ
  rw [hZ] at HS0
  unfold QP
  rw [hZ]
  clear H hZ
  go_enter Tryz.func41, Tryz.ntmps41
  go_wp2_with (go_at_call 18; refine hU.mono ?_; rintro e w1 ⟨hb, x, v, rfl, rfl, hQ, hx⟩; have HI : Hid (QIn kI 3 Z pNum s rh w x.toNat 0 (.slice none 0 0) w1 (stp (pUp most 1404) s t).1 ∧ ∀ b, (stp (pUp most 1404) s t).1 = .ok b → 0 ≤ x ∧ x ≤ most) := ⟨⟨[], rfl, Gro.nil _ _ _ _, hb, hQ, HS0.out x hx⟩, fun b hb => HB.out b x hb hx⟩; clear hU hb hQ hx HB HS0)
  go_loopg [5, 7] (x.toNat + 1) (fun kx s5 s7 wr => ∃ (i : Nat) (v : Value) (t : Stt), v = s5 ∧ s7 = .int .i64 i ∧ x.toNat - i ≤ kx ∧ Hid (QIn kI 3 Z pNum s rh w x.toNat i v wr t) ∧ Hid (∀ b, t = .ok b → 0 ≤ x ∧ x ≤ most ∧ i ≤ x.toNat))
  case atStart => exact ⟨0, _, _, rfl, rfl, by omega, HI.out.1, fun b hb => ⟨(HI.out.2 b hb).1, (HI.out.2 b hb).2, by omega⟩⟩
  case round =>
    obtain ⟨i, v, t1, hv, rfl, hkx, HL, HA⟩ := hrel
    subst hv
    obtain ⟨c, hc, hc0⟩ := qcode HL.out.choose_spec.2.2.2.1
    cases t1 with
    | error e =>
      have hc1 : (c == 0) = false := hc0
      have HF := HL.out.fin (.inl ⟨_, rfl⟩)
      clear hc0 HL HA HI
      by_cases hlt : (i : Int) < x
      · as_aux_lemma =>
          go_wp2
          go_ret
          obtain ⟨f1, xs, f2, f3, f4⟩ := HF
          exact ⟨f1, xs, _, rfl, f2, f3, f4⟩
      · as_aux_lemma =>
          go_wp2
          go_ret
          obtain ⟨f1, xs, f2, f3, f4⟩ := HF
          exact ⟨f1, xs, _, rfl, f2, f3, f4⟩
    | ok b =>
      have hc1 : (c == 0) = true := hc0
      obtain ⟨a1, a2, a3⟩ := HA.out b rfl
      by_cases hlt : i < x.toNat
      · have hl2 : (i : Int) < x := by omega
        have hC0 := qnum_any HL.out.choose_spec.2.2.2.1 hs
        have HN : Hid (∀ w1 y, Bx rh wr w1 → Qb w1 rh s (stp pNum s (.ok b)).1 → (∀ z, (stp pNum s (.ok b)).2 = some z → y = z) → (∃ fs, w1.ownsRow w.heap.size 3 1 v i fs) ∧ ∀ cs fs o w2 g cap, kI.R w1 (fun b => wr.heap.size ≤ b ∧ b < w1.heap.size) y cs → w1.ownsRow w.heap.size 3 1 v i fs → w2.ownsRow w.heap.size 3 1 (.slice (some ⟨g, 0, none⟩) (i + 1) cap) (i + 1) (fs ++ cs) → (w1.alloc o).grownBy w2 v.ownBlock → (v.ownBlock = some g ∨ g = (w1.alloc o).heap.size) → QIn kI 3 Z pNum s rh w x.toNat (i + 1) (.slice (some ⟨g, 0, none⟩) (i + 1) cap) w2 (stp pNum s (.ok b)).1) := fun w1 y q1 q2 q3 => HL.out.next hlt hrh q1 q2 q3
        have HS : Hid ((stp pNum s (.ok b)).1 = (stp pNum s (.ok b)).1) := rfl
        have HE : Hid (∀ y, (stp pNum s (.ok b)).2 = some y → ∀ x0 : Int, (∀ y, (stp pNum s (.ok b)).2 = some y → x0 = y) → x0 = y) := fun y hy x0 h0 => h0 y hy
        have hwz := (HL.out.choose_spec.2.2.1).size
        clear hc0 HL HA HI
        as_aux_lemma =>
          go_wp2_with (first
            | (go_at_call 17; refine hC0.mono ?_; rintro e u0 ⟨hb0, x0, v0, rfl, rfl, hQ0, hx0⟩; have HB0 : Hid (Bx rh wr u0) := hb0; obtain ⟨⟨fs, hfs⟩, h9⟩ := HN.out u0 x0 HB0.out (by rw [← HS.out]; exact hQ0) (fun y hy => HE.out y hy x0 hx0); have hz9 := HB0.out.size; have HF : Hid (u0.ownsRow w.heap.size 3 1 v i fs) := hfs; have HQ : Hid (kI.R u0 (fun b => wr.heap.size ≤ b ∧ b < u0.heap.size) x0 [.int .i64 x0]) := rfl; have H9 : Hid _ := h9 [.int .i64 x0] fs; clear hC0 hb0)
            | (at_builtin; refine wpList_append_lies _ rfl _ _ 49 rfl w.heap.size 3 i0 (.int .i64 0) 1 8 Tryz.underlying49 hi hz0 hz1 hz2 rfl (by decide) _ i fs rfl (HF.out.alloc _) ⟨u0.heap.size, 0, none⟩ 1 1 [.int .i64 x0] rfl rfl (news_at _ _ _) (kI.one HQ.out) (by decide) (by unfold maxLen; omega) (by omega) (by simp; omega) _ rfl ?_; intro g cap w2 hown hgrow hat hlt3; have HO : Hid _ := H9.out _ w2 g cap HQ.out HF.out hown hgrow hat; clear hown hgrow hat H9))
          go_roundg (x.toNat - (i + 1))
          case measure => omega
          case rel => exact ⟨i + 1, _, _, rfl, by go_num, by omega, HO.out, fun _ _ => ⟨a1, a2, by omega⟩⟩
      · have hl2 : ¬ (i : Int) < x := by omega
        have HF := HL.out.fin (.inr (by omega))
        clear hc0 HL HA HI
        as_aux_lemma =>
          go_wp2
          go_ret
          obtain ⟨f1, xs, f2, f3, f4⟩ := HF
          exact ⟨f1, xs, _, rfl, f2, f3, f4⟩
end Go.Proofs.YtajghalljkphiaaGreat
/- The document's own reader: code_. -/
namespace Go.Proofs.YtajghalljkphiaaGreat
open Go.RowKit

set_option maxHeartbeats 4000000 in
set_option maxRecDepth 20000 in
theorem qcode_any {w : World} {rh : Nat} {s : ByteArray} {t : Stt} (H : Qb w rh s t) (hs : s.size ≤ maxLen) : Calls Tryz.prog 67 #[.pointer (some ⟨rh, 0, none⟩)] w (QP (pList 300 pIs) (Ns kIs w) s rh w t) := by
  obtain ⟨i0, hi, hz0, hz1, hz2⟩ := info_parts infoLS
  have hU := qup_any 300 1404 (by decide) H hs
  have hrh := H.lt
  have HB : Hid (∀ b x, (stp (pUp 300 1404) s t).1 = .ok b → (∀ y, (stp (pUp 300 1404) s t).2 = some y → x = y) → 0 ≤ x ∧ x ≤ 300) := fun b x h1 h2 => up_bound h1 h2
  have HS0 : Hid (∀ x : Int, (∀ y, (stp (pUp 300 1404) s t).2 = some y → x = y) → Rem (stp (pList 300 pIs) s t) pIs s x.toNat [] (stp (pUp 300 1404) s t).1) := fun x hx => Rem.start hx
  obtain ⟨Z, hZ⟩ : ∃ Z, stp (pList 300 pIs) s t = Z := ⟨_, rfl⟩
  have HZ : Hid (stp (pList 300 pIs) s t = Z) := hZ
  rw [hZ] at HS0
  unfold QP
  rw [hZ]
  clear H hZ
  go_enter Tryz.func67, Tryz.ntmps67
  go_wp2_with (go_at_call 18; refine hU.mono ?_; rintro e w1 ⟨hb, x, v, rfl, rfl, hQ, hx⟩; have HI : Hid (QIn kIs 67 Z pIs s rh w x.toNat 0 (.slice none 0 0) w1 (stp (pUp 300 1404) s t).1 ∧ ∀ b, (stp (pUp 300 1404) s t).1 = .ok b → 0 ≤ x ∧ x ≤ 300) := ⟨⟨[], rfl, Gro.nil _ _ _ _, hb, hQ, HS0.out x hx⟩, fun b hb => HB.out b x hb hx⟩; clear hU hb hQ hx HB HS0)
  go_loopg [3, 5] (x.toNat + 1) (fun kx s5 s7 wr => ∃ (i : Nat) (v : Value) (t : Stt), v = s5 ∧ s7 = .int .i64 i ∧ x.toNat - i ≤ kx ∧ Hid (QIn kIs 67 Z pIs s rh w x.toNat i v wr t) ∧ Hid (∀ b, t = .ok b → 0 ≤ x ∧ x ≤ 300 ∧ i ≤ x.toNat))
  case atStart => exact ⟨0, _, _, rfl, rfl, by omega, HI.out.1, fun b hb => ⟨(HI.out.2 b hb).1, (HI.out.2 b hb).2, by omega⟩⟩
  case round =>
    obtain ⟨i, v, t1, hv, rfl, hkx, HL, HA⟩ := hrel
    subst hv
    obtain ⟨c, hc, hc0⟩ := qcode HL.out.choose_spec.2.2.2.1
    cases t1 with
    | error e =>
      have hc1 : (c == 0) = false := hc0
      have HF := HL.out.fin (.inl ⟨_, rfl⟩)
      clear hc0 HL HA HI
      by_cases hlt : (i : Int) < x
      · as_aux_lemma =>
          go_wp2
          go_ret
          obtain ⟨f1, xs, f2, f3, f4⟩ := HF
          exact ⟨f1, xs, _, rfl, f2, f3, f4⟩
      · as_aux_lemma =>
          go_wp2
          go_ret
          obtain ⟨f1, xs, f2, f3, f4⟩ := HF
          exact ⟨f1, xs, _, rfl, f2, f3, f4⟩
    | ok b =>
      have hc1 : (c == 0) = true := hc0
      obtain ⟨a1, a2, a3⟩ := HA.out b rfl
      by_cases hlt : i < x.toNat
      · have hl2 : (i : Int) < x := by omega
        have hC0 := qnum_any HL.out.choose_spec.2.2.2.1 hs
        have HN : Hid (∀ w1 y, Bx rh wr w1 → Qb w1 rh s (stp pIs s (.ok b)).1 → (∀ z, (stp pIs s (.ok b)).2 = some z → y = z) → (∃ fs, w1.ownsRow w.heap.size 67 3 v i fs) ∧ ∀ cs fs o w2 g cap, kIs.R w1 (fun b => wr.heap.size ≤ b ∧ b < w1.heap.size) y cs → w1.ownsRow w.heap.size 67 3 v i fs → w2.ownsRow w.heap.size 67 3 (.slice (some ⟨g, 0, none⟩) (i + 1) cap) (i + 1) (fs ++ cs) → (w1.alloc o).grownBy w2 v.ownBlock → (v.ownBlock = some g ∨ g = (w1.alloc o).heap.size) → QIn kIs 67 Z pIs s rh w x.toNat (i + 1) (.slice (some ⟨g, 0, none⟩) (i + 1) cap) w2 (stp pIs s (.ok b)).1) := fun w1 y q1 q2 q3 => HL.out.next hlt hrh q1 q2 q3
        have HS : Hid ((stp pNum s (stp pNum s (stp pNum s (.ok b)).1).1).1 = (stp pIs s (.ok b)).1) := by show _ = _; rw [show pIs = pMap _ _ from rfl, (stp_map _ _ _ _).1, (stp_seq _ _ _ _).1, (stp_seq _ _ _ _).1]
        have HE : Hid (∀ y, (stp pIs s (.ok b)).2 = some y → ∀ x0 : Int, (∀ y, (stp pNum s (.ok b)).2 = some y → x0 = y) → ∀ x1 : Int, (∀ y, (stp pNum s (stp pNum s (.ok b)).1).2 = some y → x1 = y) → ∀ x2 : Int, (∀ y, (stp pNum s (stp pNum s (stp pNum s (.ok b)).1).1).2 = some y → x2 = y) → (⟨x0, x1, x2⟩ : Is) = y) := fun y hy x0 h0 x1 h1 x2 h2 => by
          rw [show pIs = pMap _ _ from rfl, (stp_map _ _ _ _).2, Option.map_eq_some_iff] at hy
          obtain ⟨z, hz, rfl⟩ := hy
          obtain ⟨g0, k0⟩ := (stp_seq _ _ _ _).2 _ hz
          obtain ⟨g1, k1⟩ := (stp_seq _ _ _ _).2 _ k0
          rw [h0 _ g0, h1 _ g1, h2 _ k1]
        have hwz := (HL.out.choose_spec.2.2.1).size
        clear hc0 HL HA HI
        as_aux_lemma =>
          go_wp2_with (first
            | (go_at_call 17; refine hC0.mono ?_; rintro e u0 ⟨hb0, x0, v0, rfl, rfl, hQ0, hx0⟩; have HB0 : Hid (Bx rh wr u0) := hb0; have hC1 := qnum_any hQ0 hs; clear hC0 hb0)
            | (go_at_call 17; refine hC1.mono ?_; rintro e u1 ⟨hb1, x1, v1, rfl, rfl, hQ1, hx1⟩; have HB1 : Hid (Bx rh wr u1) := HB0.out.trans hb1; have hC2 := qnum_any hQ1 hs; clear hC1 hb1)
            | (go_at_call 17; refine hC2.mono ?_; rintro e u2 ⟨hb2, x2, v2, rfl, rfl, hQ2, hx2⟩; have HB2 : Hid (Bx rh wr u2) := HB1.out.trans hb2; obtain ⟨⟨fs, hfs⟩, h9⟩ := HN.out u2 (⟨x0, x1, x2⟩ : Is) HB2.out (by rw [← HS.out]; exact hQ2) (fun y hy => HE.out y hy x0 hx0 x1 hx1 x2 hx2); have hz9 := HB2.out.size; have HF : Hid (u2.ownsRow w.heap.size 67 3 v i fs) := hfs; have HQ : Hid (kIs.R u2 (fun b => wr.heap.size ≤ b ∧ b < u2.heap.size) (⟨x0, x1, x2⟩ : Is) [.int .i64 x0, .int .i64 x1, .int .i64 x2]) := rfl; have H9 : Hid _ := h9 [.int .i64 x0, .int .i64 x1, .int .i64 x2] fs; clear hC2 hb2)
            | (at_builtin; refine wpList_append_lies _ rfl _ _ 59 rfl w.heap.size 67 i0 (.agg #[.int .i64 0, .int .i64 0, .int .i64 0]) 3 24 Tryz.underlying59 hi hz0 hz1 hz2 rfl (by decide) _ i fs rfl (HF.out.alloc _) ⟨u2.heap.size, 0, none⟩ 1 1 [.int .i64 x0, .int .i64 x1, .int .i64 x2] rfl rfl (news_at _ _ _) (kIs.one HQ.out) (by decide) (by unfold maxLen; omega) (by omega) (by simp; omega) _ rfl ?_; intro g cap w2 hown hgrow hat hlt3; have HO : Hid _ := H9.out _ w2 g cap HQ.out HF.out hown hgrow hat; clear hown hgrow hat H9))
          go_roundg (x.toNat - (i + 1))
          case measure => omega
          case rel => exact ⟨i + 1, _, _, rfl, by go_num, by omega, HO.out, fun _ _ => ⟨a1, a2, by omega⟩⟩
      · have hl2 : ¬ (i : Int) < x := by omega
        have HF := HL.out.fin (.inr (by omega))
        clear hc0 HL HA HI
        as_aux_lemma =>
          go_wp2
          go_ret
          obtain ⟨f1, xs, f2, f3, f4⟩ := HF
          exact ⟨f1, xs, _, rfl, f2, f3, f4⟩
end Go.Proofs.YtajghalljkphiaaGreat
/- The document's own reader: fields. -/
namespace Go.Proofs.YtajghalljkphiaaGreat
open Go.RowKit

set_option maxHeartbeats 4000000 in
set_option maxRecDepth 20000 in
theorem qfields_any {w : World} {rh : Nat} {s : ByteArray} {t : Stt} (H : Qb w rh s t) (hs : s.size ≤ maxLen) : Calls Tryz.prog 42 #[.pointer (some ⟨rh, 0, none⟩)] w (QP (pList 24 pFd) (Ns kFd w) s rh w t) := by
  obtain ⟨i0, hi, hz0, hz1, hz2⟩ := info_parts infoLF
  have hU := qup_any 24 1404 (by decide) H hs
  have hrh := H.lt
  have HB : Hid (∀ b x, (stp (pUp 24 1404) s t).1 = .ok b → (∀ y, (stp (pUp 24 1404) s t).2 = some y → x = y) → 0 ≤ x ∧ x ≤ 24) := fun b x h1 h2 => up_bound h1 h2
  have HS0 : Hid (∀ x : Int, (∀ y, (stp (pUp 24 1404) s t).2 = some y → x = y) → Rem (stp (pList 24 pFd) s t) pFd s x.toNat [] (stp (pUp 24 1404) s t).1) := fun x hx => Rem.start hx
  obtain ⟨Z, hZ⟩ : ∃ Z, stp (pList 24 pFd) s t = Z := ⟨_, rfl⟩
  have HZ : Hid (stp (pList 24 pFd) s t = Z) := hZ
  rw [hZ] at HS0
  unfold QP
  rw [hZ]
  clear H hZ
  go_enter Tryz.func42, Tryz.ntmps42
  go_wp2_with (go_at_call 18; refine hU.mono ?_; rintro e w1 ⟨hb, x, v, rfl, rfl, hQ, hx⟩; have HI : Hid (QIn kFd 96 Z pFd s rh w x.toNat 0 (.slice none 0 0) w1 (stp (pUp 24 1404) s t).1 ∧ ∀ b, (stp (pUp 24 1404) s t).1 = .ok b → 0 ≤ x ∧ x ≤ 24) := ⟨⟨[], rfl, Gro.nil _ _ _ _, hb, hQ, HS0.out x hx⟩, fun b hb => HB.out b x hb hx⟩; clear hU hb hQ hx HB HS0)
  go_loopg [3, 5] (x.toNat + 1) (fun kx s5 s7 wr => ∃ (i : Nat) (v : Value) (t : Stt), v = s5 ∧ s7 = .int .i64 i ∧ x.toNat - i ≤ kx ∧ Hid (QIn kFd 96 Z pFd s rh w x.toNat i v wr t) ∧ Hid (∀ b, t = .ok b → 0 ≤ x ∧ x ≤ 24 ∧ i ≤ x.toNat))
  case atStart => exact ⟨0, _, _, rfl, rfl, by omega, HI.out.1, fun b hb => ⟨(HI.out.2 b hb).1, (HI.out.2 b hb).2, by omega⟩⟩
  case round =>
    obtain ⟨i, v, t1, hv, rfl, hkx, HL, HA⟩ := hrel
    subst hv
    obtain ⟨c, hc, hc0⟩ := qcode HL.out.choose_spec.2.2.2.1
    cases t1 with
    | error e =>
      have hc1 : (c == 0) = false := hc0
      have HF := HL.out.fin (.inl ⟨_, rfl⟩)
      clear hc0 HL HA HI
      by_cases hlt : (i : Int) < x
      · as_aux_lemma =>
          go_wp2
          go_ret
          obtain ⟨f1, xs, f2, f3, f4⟩ := HF
          exact ⟨f1, xs, _, rfl, f2, f3, f4⟩
      · as_aux_lemma =>
          go_wp2
          go_ret
          obtain ⟨f1, xs, f2, f3, f4⟩ := HF
          exact ⟨f1, xs, _, rfl, f2, f3, f4⟩
    | ok b =>
      have hc1 : (c == 0) = true := hc0
      obtain ⟨a1, a2, a3⟩ := HA.out b rfl
      by_cases hlt : i < x.toNat
      · have hl2 : (i : Int) < x := by omega
        have hC0 := qname_any HL.out.choose_spec.2.2.2.1 hs
        have HN : Hid (∀ w1 y, Bx rh wr w1 → Qb w1 rh s (stp pFd s (.ok b)).1 → (∀ z, (stp pFd s (.ok b)).2 = some z → y = z) → (∃ fs, w1.ownsRow w.heap.size 96 2 v i fs) ∧ ∀ cs fs o w2 g cap, kFd.R w1 (fun b => wr.heap.size ≤ b ∧ b < w1.heap.size) y cs → w1.ownsRow w.heap.size 96 2 v i fs → w2.ownsRow w.heap.size 96 2 (.slice (some ⟨g, 0, none⟩) (i + 1) cap) (i + 1) (fs ++ cs) → (w1.alloc o).grownBy w2 v.ownBlock → (v.ownBlock = some g ∨ g = (w1.alloc o).heap.size) → QIn kFd 96 Z pFd s rh w x.toNat (i + 1) (.slice (some ⟨g, 0, none⟩) (i + 1) cap) w2 (stp pFd s (.ok b)).1) := fun w1 y q1 q2 q3 => HL.out.next hlt hrh q1 q2 q3
        have HS : Hid ((stp pNum s (stp pName s (.ok b)).1).1 = (stp pFd s (.ok b)).1) := by show _ = _; rw [show pFd = pMap _ _ from rfl, (stp_map _ _ _ _).1, (stp_seq _ _ _ _).1]
        have HE : Hid (∀ y, (stp pFd s (.ok b)).2 = some y → ∀ x0 : ByteArray, (∀ y, (stp pName s (.ok b)).2 = some y → x0 = y) → ∀ x1 : Int, (∀ y, (stp pNum s (stp pName s (.ok b)).1).2 = some y → x1 = y) → (⟨x0, x1⟩ : Fd) = y) := fun y hy x0 h0 x1 h1 => by
          rw [show pFd = pMap _ _ from rfl, (stp_map _ _ _ _).2, Option.map_eq_some_iff] at hy
          obtain ⟨z, hz, rfl⟩ := hy
          obtain ⟨g0, k0⟩ := (stp_seq _ _ _ _).2 _ hz
          rw [h0 _ g0, h1 _ k0]
        have hwz := (HL.out.choose_spec.2.2.1).size
        clear hc0 HL HA HI
        as_aux_lemma =>
          go_wp2_with (first
            | (go_at_call 40; refine hC0.mono ?_; rintro e u0 ⟨hb0, x0, v0, rfl, rfl, hQ0, hx0⟩; have HB0 : Hid (Bx rh wr u0) := hb0; have hC1 := qnum_any hQ0 hs; clear hC0 hb0)
            | (go_at_call 17; refine hC1.mono ?_; rintro e u1 ⟨hb1, x1, v1, rfl, rfl, hQ1, hx1⟩; have HB1 : Hid (Bx rh wr u1) := HB0.out.trans hb1; obtain ⟨⟨fs, hfs⟩, h9⟩ := HN.out u1 (⟨x0, x1⟩ : Fd) HB1.out (by rw [← HS.out]; exact hQ1) (fun y hy => HE.out y hy x0 hx0 x1 hx1); have hz9 := HB1.out.size; have HF : Hid (u1.ownsRow w.heap.size 96 2 v i fs) := hfs; have HQ : Hid (kFd.R u1 (fun b => wr.heap.size ≤ b ∧ b < u1.heap.size) (⟨x0, x1⟩ : Fd) [.string x0, .int .i64 x1]) := rfl; have H9 : Hid _ := h9 [.string x0, .int .i64 x1] fs; clear hC1 hb1)
            | (at_builtin; refine wpList_append_lies _ rfl _ _ 50 rfl w.heap.size 96 i0 (.agg #[.string ⟨#[]⟩, .int .i64 0]) 2 24 Tryz.underlying50 hi hz0 hz1 hz2 rfl (by decide) _ i fs rfl (HF.out.alloc _) ⟨u1.heap.size, 0, none⟩ 1 1 [.string x0, .int .i64 x1] rfl rfl (news_at _ _ _) (kFd.one HQ.out) (by decide) (by unfold maxLen; omega) (by omega) (by simp; omega) _ rfl ?_; intro g cap w2 hown hgrow hat hlt3; have HO : Hid _ := H9.out _ w2 g cap HQ.out HF.out hown hgrow hat; clear hown hgrow hat H9))
          go_roundg (x.toNat - (i + 1))
          case measure => omega
          case rel => exact ⟨i + 1, _, _, rfl, by go_num, by omega, HO.out, fun _ _ => ⟨a1, a2, by omega⟩⟩
      · have hl2 : ¬ (i : Int) < x := by omega
        have HF := HL.out.fin (.inr (by omega))
        clear hc0 HL HA HI
        as_aux_lemma =>
          go_wp2
          go_ret
          obtain ⟨f1, xs, f2, f3, f4⟩ := HF
          exact ⟨f1, xs, _, rfl, f2, f3, f4⟩
end Go.Proofs.YtajghalljkphiaaGreat
