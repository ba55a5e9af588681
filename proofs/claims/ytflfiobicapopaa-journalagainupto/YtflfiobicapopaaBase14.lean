/- JourMath3, JourMath4, JourLaw, JourAwake, GenFrame: our own definitions and contracts; no statement of the seat is proved here. -/
import Derived.Test.YtflfiobicapopaaBase13
import Derived.Lib.SlBytesConst
import Derived.Test.YtflfiobicapopaaBase00
import Derived.Test.YtflfiobicapopaaRows
import Derived.ProofKit
import Derived.OpenShut
namespace Go.Proofs.Ytflfiobicapopaa

/-- Behind a crash: a journal again, under a head of those, with batches of those. -/
def Back (B : AD) (S : HeadD → List (List (List UInt8)) → Prop) : Prop := ∀ a b c d, ∃ h' l', S h' l' ∧ St (B.crashed (kp a b c d)) h' l' ∧ Fresh' (B.crashed (kp a b c d))

/-- What an operation leaves: it is done, and the disk is open; or the disk died. -/
structure Did (A B : AD) (E : Int) (R : Prop) (S : HeadD → List (List (List UInt8)) → Prop) : Prop where
  cap : B.cap = A.cap
  ok : E = 0 → R
  ko : E ≠ 0 → E = 3 ∧ B.dead = true ∧ (Full A → Back B S)
  calm : A.calls = -1 → E = 0 ∧ B.calls = -1

theorem upd2 {α : Type} {f : Nat → α} {x : α} {i j : Nat} (hj : j = i) : upd f i x j = x := by rw [hj, upd_same]

theorem later_next_l (h : HeadD) : h.later.next.l = h.l := rfl
theorem over_next_l (h : HeadD) : h.over.next.l = 1 - h.l := rfl

section
variable {A : AD} {h : HeadD} {l : List (List (List UInt8))}
/-- Open. -/
theorem open_math (H : St A h l) (hb : h.s + 2 < 18446744073709551616) :
    Did A (opD A h (bputs l).length) (opE A h (bputs l).length) (Run (opD A h (bputs l).length) h.later.next l) (fun h' l' => (h' = h ∨ h' = h.later.next) ∧ l' = l) := by
  have hl := H.l2
  have hl1 := H.sg.l
  have hol : 1 - h.l < 2 := by omega
  have hne : (1 - h.l) ≠ h.l := by omega
  have hfl : h.later.fits := ⟨H.sg.fits.1, Nat.mod_lt _ (by decide), H.sg.fits.2.2⟩
  obtain ⟨m, hm⟩ : ∃ m, (bputs l).length = m := ⟨_, rfl⟩
  rw [hm]
  obtain ⟨r, x, er, hr⟩ := H.seg
  have hsafe := H.safe
  rw [hm] at hsafe
  have S1 := shorten_any (n := m) H.live h.l (H.le _ hl)
  by_cases e1 : snE A h.l m = 0
  · obtain ⟨d1, x1, s1⟩ := S1.ok e1
    have X1 : (snD A h.l m).x h.l = bputs l := by rw [x1, upd_same, er, ← hm, List.take_left]
    have Y1 : (snD A h.l m).safe h.l = m := by rw [s1, upd_same]; omega
    have X1o : (snD A h.l m).x (1 - h.l) = A.x (1 - h.l) := by rw [x1, upd_other _ _ hne]
    have Y1o : (snD A h.l m).safe (1 - h.l) = A.safe (1 - h.l) := by rw [s1, upd_other _ _ hne]
    have L1 : Le (snD A h.l m) := fun i hi => by
      rcases (show i = h.l ∨ i = 1 - h.l by omega) with e | e
      · rw [e, X1, Y1]; omega
      · rw [e, X1o, Y1o]; exact H.le _ hol
    have G1 : SG (snD A h.l m) h := H.sg.congr (fun i _ => by rw [S1.sh]) (fun i _ => by rw [S1.sf])
    have S2 := shorten_any (n := 0) d1 (1 - h.l) (L1 _ hol)
    by_cases e2 : snE (snD A h.l m) (1 - h.l) 0 = 0
    · obtain ⟨d2, x2, s2⟩ := S2.ok e2
      have G2 : SG (snD (snD A h.l m) (1 - h.l) 0) h := G1.congr (fun i _ => by rw [S2.sh]) (fun i _ => by rw [S2.sf])
      have X2 : (snD (snD A h.l m) (1 - h.l) 0).x h.l = bputs l := by rw [x2, upd_other _ _ (by omega), X1]
      have Y2 : (snD (snD A h.l m) (1 - h.l) 0).safe h.l = m := by rw [s2, upd_other _ _ (by omega), Y1]
      have X2o : (snD (snD A h.l m) (1 - h.l) 0).x (1 - h.l) = [] := by rw [x2, upd_same, List.take_zero]
      have Y2o : (snD (snD A h.l m) (1 - h.l) 0).safe (1 - h.l) = 0 := by rw [s2, upd_same]; omega
      have F2 : Full (snD (snD A h.l m) (1 - h.l) 0) := fun i hi => by
        rcases (show i = h.l ∨ i = 1 - h.l by omega) with e | e
        · rw [e, X2, Y2, hm]
        · rw [e, X2o, Y2o]; rfl
      have V := save_any G2 d2 (X := h.later) rfl hfl hl1 hb
      have eE : opE A h m = saveE (snD (snD A h.l m) (1 - h.l) 0) h.later := by rw [opE, if_neg (fun h => h e1), if_neg (fun h => h e2)]
      have eD : opD A h m = saveD (snD (snD A h.l m) (1 - h.l) 0) h.later := by rw [opD, if_neg (fun h => h e1), if_neg (fun h => h e2)]
      rw [eE, eD]
      refine ⟨V.cap.trans (S2.cap.trans S1.cap), fun e => ?_, fun e => ?_, fun e => ?_⟩
      · obtain ⟨a, b⟩ := V.ok e
        refine ⟨a, b, H.okr, ?_, ?_, ?_⟩
        · rw [later_next_l, V.x, X2]
        · rw [later_next_l, V.x, X2o]
        · exact fun i hi => by rw [V.x, V.seg]; exact F2 i hi
      · obtain ⟨a, b, cr⟩ := V.ko e
        refine ⟨a, b, fun _ => fun a b c d => ?_⟩
        have le : Le (saveD (snD (snD A h.l m) (1 - h.l) 0) h.later) := fun i hi => by rw [V.x, V.seg]; exact F2.le i hi
        rcases cr a b c d with sg | sg
        · exact ⟨h, l, ⟨.inl rfl, rfl⟩, St.crash sg H.okr (by rw [V.x, X2]) (by rw [V.x, V.seg]; exact F2 _ hl) le, crashed_fresh le _ _ _ _⟩
        · exact ⟨h.later.next, l, ⟨.inr rfl, rfl⟩, St.crash sg H.okr (by rw [later_next_l, V.x, X2]) (by rw [later_next_l, V.x, V.seg]; exact F2 _ hl) le, crashed_fresh le _ _ _ _⟩
      · exact V.calm (S2.calm (S1.calm e).2).2
    · obtain ⟨a, b, x2, s2⟩ := S2.ko e2
      have eE : opE A h m = snE (snD A h.l m) (1 - h.l) 0 := by rw [opE, if_neg (fun h => h e1), if_pos e2]
      have eD : opD A h m = snD (snD A h.l m) (1 - h.l) 0 := by rw [opD, if_neg (fun h => h e1), if_pos e2]
      rw [eE, eD]
      refine ⟨S2.cap.trans S1.cap, fun e => (e2 e).elim, fun _ => ⟨a, b, fun FA => fun a b c d => ?_⟩, fun e => (e2 (S2.calm (S1.calm e).2).1).elim⟩
      have F1 : Full (snD A h.l m) := fun i hi => by
        rcases (show i = h.l ∨ i = 1 - h.l by omega) with e | e
        · rw [e, X1, Y1, hm]
        · rw [e, X1o, Y1o]; exact FA _ hol
      have T1 : St (snD A h.l m) h l := ⟨d1, G1, H.okr, ⟨[], 0, by rw [X1, List.append_nil], scan_nil⟩, by rw [Y1, hm]; exact Nat.le_refl _, L1⟩
      exact ⟨h, l, ⟨.inl rfl, rfl⟩, T1.crashR F1 x2 s2 S2.sh S2.sf a b c d, crashed_fresh (fun i hi => by rw [x2, s2]; exact L1 i hi) _ _ _ _⟩
  · obtain ⟨a, b, x1, s1⟩ := S1.ko e1
    have eE : opE A h m = snE A h.l m := if_pos e1
    have eD : opD A h m = snD A h.l m := if_pos e1
    rw [eE, eD]
    refine ⟨S1.cap, fun e => (e1 e).elim, fun _ => ⟨a, b, fun FA => fun a b c d => ?_⟩, fun e => (e1 (S1.calm e).1).elim⟩
    exact ⟨h, l, ⟨.inl rfl, rfl⟩, H.crashR FA x1 s1 S1.sh S1.sf a b c d, crashed_fresh (fun i hi => by rw [x1, s1]; exact H.le i hi) _ _ _ _⟩

/-- A batch that is cut. -/
theorem bput_cut {rows : List (List UInt8)} (hr : okRows rows) (n : Nat) : (bput rows).length ≤ n ∨ ∃ x, ScanIs ((bput rows).take n) [] 0 x := by
  rcases Nat.lt_or_ge n (bput rows).length with h | h
  · right
    rcases Nat.eq_zero_or_pos n with e | e
    · exact ⟨0, by rw [e, List.take_zero]; exact scan_nil⟩
    · exact ⟨32, scan_part hr e h⟩
  · exact .inl h
theorem okr_snoc {rows : List (List UInt8)} (H : ∀ r ∈ l, okRows r) (hr : okRows rows) : ∀ r ∈ l ++ [rows], okRows r := fun r h => by
  rcases List.mem_append.1 h with h | h
  · exact H r h
  · rw [List.mem_singleton.1 h]; exact hr

/-- Append. -/
structure App (A B : AD) (h : HeadD) (l : List (List (List UInt8))) (rows : List (List UInt8)) (E : Int) : Prop where
  cap : B.cap = A.cap
  full : A.cap < ((A.x 0).length : Int) + (A.x 1).length + (bput rows).length → E = 5 ∧ B = A
  ok : E = 0 → Run B h (l ++ [rows])
  ko : ¬ A.cap < ((A.x 0).length : Int) + (A.x 1).length + (bput rows).length → E ≠ 0 → E = 3 ∧ B.dead = true ∧ Back B fun h' l' => h' = h ∧ (l' = l ∨ l' = l ++ [rows])
  calm : ¬ A.cap < ((A.x 0).length : Int) + (A.x 1).length + (bput rows).length → A.calls = -1 → E = 0
  still : A.calls = -1 → B.calls = -1
theorem append_math {rows : List (List UInt8)} (H : Run A h l) (hr : okRows rows) : App A (puD A h.l (bput rows)) h l rows (puE A h.l (bput rows)) := by
  have hl1 := H.sg.l
  have hl : h.l < 2 := by omega
  have P := put_any (b := bput rows) H.live h.l
  refine ⟨P.cap, P.full, fun e => ?_, fun hn e => ?_, P.calm, P.still⟩
  · obtain ⟨d, x, s⟩ := P.ok e
    refine ⟨d, H.sg.congr (fun i _ => by rw [P.sh]) (fun i _ => by rw [P.sf]), okr_snoc H.okr hr, ?_, ?_, fun i hi => ?_⟩
    · rw [x, upd_same, H.here, bputs_snoc]
    · rw [x, upd_other _ _ (by omega)]; exact H.other
    · rw [x, s]
      by_cases e : i = h.l
      · rw [upd2 e, upd2 e]
      · rw [upd_other _ _ e, upd_other _ _ e]; exact H.full i hi
  · obtain ⟨a, b, s, t, x⟩ := P.ko hn e
    refine ⟨a, b, fun a b c d => ?_⟩
    have le : Le (puD A h.l (bput rows)) := fun i hi => by
      rw [x, s, H.full i hi]
      by_cases e : i = h.l
      · rw [upd2 e, e, List.length_append]; omega
      · rw [upd_other _ _ e]; exact Nat.le_refl _
    have F := crashed_fresh le a b c d
    have sg : SG ((puD A h.l (bput rows)).crashed (kp a b c d)) h := SG.crash (H.sg.congr (fun i _ => by rw [P.sh]) fun i _ => by rw [P.sf]) a b c d
    obtain ⟨q, q1, q2, q3⟩ := crashed_seg (puD A h.l (bput rows)) a b c d h.l hl
    have ex : ((puD A h.l (bput rows)).crashed (kp a b c d)).x h.l = bputs l ++ (bput rows).take (min q t) := by
      rw [q2, x, upd_same, s, H.full _ hl, H.here, List.take_append, List.take_of_length_le (by omega), show (bputs l).length + q - (bputs l).length = q by omega, List.take_take]
    have es : (bputs l).length ≤ ((puD A h.l (bput rows)).crashed (kp a b c d)).safe h.l := by rw [q3, s, H.full _ hl, H.here]; omega
    rcases bput_cut hr (min q t) with hq | ⟨x', hx'⟩
    · rw [List.take_of_length_le hq, ← bputs_snoc] at ex
      refine ⟨h, l ++ [rows], ⟨rfl, .inr rfl⟩, ⟨F.live, sg, okr_snoc H.okr hr, ⟨[], 0, by rw [ex, List.append_nil], scan_nil⟩, ?_, F.full.le⟩, F⟩
      rw [F.full _ hl, ex]; exact Nat.le_refl _
    · exact ⟨h, l, ⟨rfl, .inl rfl⟩, ⟨F.live, sg, H.okr, ⟨_, x', ex, hx'⟩, es, F.full.le⟩, F⟩

/-- Switch. -/
structure Swi (A B : AD) (h : HeadD) (l : List (List (List UInt8))) (rows : List (List UInt8)) (E : Int) (h2 : HeadD) : Prop where
  cap : B.cap = A.cap
  full : A.cap < ((A.x 0).length : Int) + (A.x 1).length + (bput rows).length → E = 5 ∧ B = A ∧ h2 = h
  ok : E = 0 → Run B h.over.next [rows] ∧ h2 = h.over.next
  ko : ¬ A.cap < ((A.x 0).length : Int) + (A.x 1).length + (bput rows).length → E ≠ 0 → E = 3 ∧ B.dead = true ∧ Back B fun h' l' => (h' = h ∧ l' = l) ∨ (h' = h.over.next ∧ l' = [rows])
  calm : ¬ A.cap < ((A.x 0).length : Int) + (A.x 1).length + (bput rows).length → A.calls = -1 → E = 0
  still : A.calls = -1 → B.calls = -1
theorem switch_math {rows : List (List UInt8)} (H : Run A h l) (hr : okRows rows) (hb : h.s + 2 < 18446744073709551616) : Swi A (swD A h (bput rows)) h l rows (swE A h (bput rows)) (swH A h (bput rows)) := by
  have hl1 := H.sg.l
  have hl : h.l < 2 := by omega
  have hol : 1 - h.l < 2 := by omega
  have hne : h.l ≠ 1 - h.l := by omega
  have hfo : h.over.fits := ⟨H.sg.fits.1, H.sg.fits.2.1, by show 1 - h.l < 256; omega⟩
  have okr1 : ∀ r ∈ [rows], okRows r := fun r h => by rw [List.mem_singleton.1 h]; exact hr
  have P := put_any (b := bput rows) H.live (1 - h.l)
  by_cases e1 : puE A (1 - h.l) (bput rows) = 0
  · have hnf : ¬ A.cap < ((A.x 0).length : Int) + (A.x 1).length + (bput rows).length := fun hf => by have := (P.full hf).1; rw [e1] at this; cases this
    obtain ⟨d1, x1, s1⟩ := P.ok e1
    have G1 : SG (puD A (1 - h.l) (bput rows)) h := H.sg.congr (fun i _ => by rw [P.sh]) (fun i _ => by rw [P.sf])
    have X1 : (puD A (1 - h.l) (bput rows)).x h.l = bputs l := by rw [x1, upd_other _ _ hne]; exact H.here
    have X1o : (puD A (1 - h.l) (bput rows)).x (1 - h.l) = bputs [rows] := by rw [x1, upd_same, H.other, bputs_one, List.nil_append]
    have F1 : Full (puD A (1 - h.l) (bput rows)) := fun i hi => by
      rw [x1, s1]
      by_cases e : i = 1 - h.l
      · rw [upd2 e, upd2 e]
      · rw [upd_other _ _ e, upd_other _ _ e]; exact H.full i hi
    have V := save_any G1 d1 (X := h.over) rfl hfo (by show 1 - h.l ≤ 1; omega) hb
    have le2 : Le (saveD (puD A (1 - h.l) (bput rows)) h.over) := fun i hi => by rw [V.x, V.seg]; exact F1.le i hi
    by_cases e2 : saveE (puD A (1 - h.l) (bput rows)) h.over = 0
    · obtain ⟨d2, G2⟩ := V.ok e2
      have S3 := shorten_any (n := 0) d2 h.l (le2 _ hl)
      have eE : swE A h (bput rows) = snE (saveD (puD A (1 - h.l) (bput rows)) h.over) h.l 0 := by rw [swE, if_neg (fun h => h e1), if_neg (fun h => h e2)]
      have eD : swD A h (bput rows) = snD (saveD (puD A (1 - h.l) (bput rows)) h.over) h.l 0 := by rw [swD, if_neg (fun h => h e1), if_neg (fun h => h e2)]
      have eH : swH A h (bput rows) = h.over.next := by rw [swH, if_neg (fun h => h e1), if_neg (fun h => h e2)]
      rw [eE, eD, eH]
      refine ⟨S3.cap.trans (V.cap.trans P.cap), fun hf => (hnf hf).elim, fun e => ⟨?_, rfl⟩, fun _ e => ?_, fun _ e => (S3.calm (V.calm (P.still e)).2).1, fun e => (S3.calm (V.calm (P.still e)).2).2⟩
      · obtain ⟨d3, x3, s3⟩ := S3.ok e
        refine ⟨d3, G2.congr (fun i _ => by rw [S3.sh]) (fun i _ => by rw [S3.sf]), okr1, ?_, ?_, fun i hi => ?_⟩
        · rw [over_next_l, x3, upd_other _ _ (by omega), V.x, X1o]
        · rw [over_next_l, show 1 - (1 - h.l) = h.l by omega, x3, upd_same, List.take_zero]
        · rw [x3, s3]
          by_cases e : i = h.l
          · rw [upd2 e, upd2 e, List.take_zero]; exact Nat.min_zero _
          · rw [upd_other _ _ e, upd_other _ _ e, V.x, V.seg]; exact F1 i hi
      · obtain ⟨a, b, x3, s3⟩ := S3.ko e
        refine ⟨a, b, fun a b c d => ⟨h.over.next, [rows], .inr ⟨rfl, rfl⟩, ?_, crashed_fresh (fun i hi => by rw [x3, s3]; exact le2 i hi) _ _ _ _⟩⟩
        refine St.crash (SG.crash (G2.congr (fun i _ => by rw [S3.sh]) fun i _ => by rw [S3.sf]) a b c d) okr1 ?_ ?_ (fun i hi => by rw [x3, s3]; exact le2 i hi)
        · rw [over_next_l, x3, V.x, X1o]
        · rw [over_next_l, x3, s3, V.x, V.seg]; exact F1 _ hol
    · obtain ⟨a, b, cr⟩ := V.ko e2
      have eE : swE A h (bput rows) = saveE (puD A (1 - h.l) (bput rows)) h.over := by rw [swE, if_neg (fun h => h e1), if_pos e2]
      have eD : swD A h (bput rows) = saveD (puD A (1 - h.l) (bput rows)) h.over := by rw [swD, if_neg (fun h => h e1), if_pos e2]
      have eH : swH A h (bput rows) = h := by rw [swH, if_neg (fun h => h e1), if_pos e2]
      rw [eE, eD, eH]
      refine ⟨V.cap.trans P.cap, fun hf => (hnf hf).elim, fun e => (e2 e).elim, fun _ _ => ⟨a, b, fun a b c d => ?_⟩, fun _ e => (V.calm (P.still e)).1, fun e => (V.calm (P.still e)).2⟩
      rcases cr a b c d with sg | sg
      · exact ⟨h, l, .inl ⟨rfl, rfl⟩, St.crash sg H.okr (by rw [V.x, X1]) (by rw [V.x, V.seg]; exact F1 _ hl) le2, crashed_fresh le2 _ _ _ _⟩
      · exact ⟨h.over.next, [rows], .inr ⟨rfl, rfl⟩, St.crash sg okr1 (by rw [over_next_l, V.x, X1o]) (by rw [over_next_l, V.x, V.seg]; exact F1 _ hol) le2, crashed_fresh le2 _ _ _ _⟩
  · have eE : swE A h (bput rows) = puE A (1 - h.l) (bput rows) := if_pos e1
    have eD : swD A h (bput rows) = puD A (1 - h.l) (bput rows) := if_pos e1
    have eH : swH A h (bput rows) = h := if_pos e1
    rw [eE, eD, eH]
    refine ⟨P.cap, fun hf => ⟨(P.full hf).1, (P.full hf).2, rfl⟩, fun e => (e1 e).elim, fun hn e => ?_, P.calm, P.still⟩
    obtain ⟨a, b, s, t, x⟩ := P.ko hn e
    refine ⟨a, b, fun a b c d => ?_⟩
    have le : Le (puD A (1 - h.l) (bput rows)) := fun i hi => by
      rw [x, s, H.full i hi]
      by_cases e : i = 1 - h.l
      · rw [upd2 e, e, List.length_append]; omega
      · rw [upd_other _ _ e]; exact Nat.le_refl _
    refine ⟨h, l, .inl ⟨rfl, rfl⟩, St.crash (SG.crash (H.sg.congr (fun i _ => by rw [P.sh]) fun i _ => by rw [P.sf]) a b c d) H.okr ?_ ?_ le, crashed_fresh le _ _ _ _⟩
    · rw [x, upd_other _ _ hne, H.here]
    · rw [x, s, upd_other _ _ hne]; exact H.full _ hl
end
end Go.Proofs.Ytflfiobicapopaa

namespace Go.Proofs.Ytflfiobicapopaa

theorem head_ext4 {h : HeadD} {s e l : Nat} (a : h.s = s) (b : h.e = e) (c : h.l = l) : h = ⟨s, e, l⟩ := by
  subst a b c; rfl
/-- The head that Format saves. -/
def fmH (s : Nat) : HeadD := (HeadD.mk s 0 0).next
theorem fmH_l (s : Nat) : (fmH s).l = 0 := rfl
theorem fmH_e (s : Nat) : (fmH s).e = 0 := rfl
section
variable {A : AD} {h : HeadD} {l : List (List (List UInt8))}
theorem format_math (H : Run A h l) (hb : h.s + 2 < 18446744073709551616) :
    Did A (fmD A) (fmE A) (Run (fmD A) (fmH h.s) []) (fun h' l' => (h' = h ∨ h' = fmH h.s) ∧ (l' = l ∨ l' = [])) := by
  obtain ⟨ld, lh⟩ := H.sg.load H.live
  have l3 : ¬ loadE A = 3 := by rw [ld]; decide
  have hl1 := H.sg.l
  have hnil : ∀ rows ∈ ([] : List (List (List UInt8))), okRows rows := fun r hr => (by cases hr)
  have hf : (HeadD.mk h.s 0 0).fits := ⟨H.sg.fits.1, (by decide : 0 < 18446744073709551616), (by decide : 0 < 256)⟩
  have S1 := shorten_any (n := 0) H.live 0 (H.full.le 0 (by decide))
  by_cases e1 : snE A 0 0 = 0
  · obtain ⟨d1, x1, s1⟩ := S1.ok e1
    have X1 : (snD A 0 0).x 0 = [] := by rw [x1, upd_same, List.take_zero]
    have Y1 : (snD A 0 0).safe 0 = 0 := by rw [s1, upd_same]; omega
    have X1o : (snD A 0 0).x 1 = A.x 1 := by rw [x1, upd_other _ _ (by decide)]
    have Y1o : (snD A 0 0).safe 1 = A.safe 1 := by rw [s1, upd_other _ _ (by decide)]
    have F1 : Full (snD A 0 0) := fun i hi => by
      rcases (show i = 0 ∨ i = 1 by omega) with e | e
      · rw [e, X1, Y1]; rfl
      · rw [e, X1o, Y1o]; exact H.full 1 (by decide)
    have G1 : SG (snD A 0 0) h := H.sg.congr (fun i _ => by rw [S1.sh]) (fun i _ => by rw [S1.sf])
    have S2 := shorten_any (n := 0) d1 1 (F1.le 1 (by decide))
    by_cases e2 : snE (snD A 0 0) 1 0 = 0
    · obtain ⟨d2, x2, s2⟩ := S2.ok e2
      have G2 : SG (snD (snD A 0 0) 1 0) h := G1.congr (fun i _ => by rw [S2.sh]) (fun i _ => by rw [S2.sf])
      have X2 : ∀ i, i < 2 → (snD (snD A 0 0) 1 0).x i = [] := fun i hi => by
        rcases (show i = 0 ∨ i = 1 by omega) with e | e
        · rw [e, x2, upd_other _ _ (by decide), X1]
        · rw [e, x2, upd_same, List.take_zero]
      have Y2 : ∀ i, i < 2 → (snD (snD A 0 0) 1 0).safe i = 0 := fun i hi => by
        rcases (show i = 0 ∨ i = 1 by omega) with e | e
        · rw [e, s2, upd_other _ _ (by decide), Y1]
        · rw [e, s2, upd_same]; omega
      have F2 : Full (snD (snD A 0 0) 1 0) := fun i hi => by rw [X2 i hi, Y2 i hi]; rfl
      have V := save_any G2 d2 (X := ⟨h.s, 0, 0⟩) rfl hf (by decide : 0 ≤ 1) hb
      have eE : fmE A = saveE (snD (snD A 0 0) 1 0) ⟨h.s, 0, 0⟩ := by rw [fmE, if_neg l3, if_neg (fun h => h e1), if_neg (fun h => h e2), lh]
      have eD : fmD A = saveD (snD (snD A 0 0) 1 0) ⟨h.s, 0, 0⟩ := by rw [fmD, if_neg l3, if_neg (fun h => h e1), if_neg (fun h => h e2), lh]
      rw [eE, eD]
      refine ⟨V.cap.trans (S2.cap.trans S1.cap), fun e => ?_, fun e => ?_, fun e => V.calm (S2.calm (S1.calm e).2).2⟩
      · obtain ⟨a, b⟩ := V.ok e
        exact ⟨a, b, hnil, by rw [V.x]; exact X2 0 (by decide), by rw [V.x]; exact X2 1 (by decide), fun i hi => by rw [V.x, V.seg]; exact F2 i hi⟩
      · obtain ⟨a, b, cr⟩ := V.ko e
        refine ⟨a, b, fun _ => fun a b c d => ?_⟩
        have le : Le (saveD (snD (snD A 0 0) 1 0) ⟨h.s, 0, 0⟩) := fun i hi => by rw [V.x, V.seg]; exact F2.le i hi
        rcases cr a b c d with sg | sg
        · exact ⟨h, [], ⟨.inl rfl, .inr rfl⟩, St.crash sg hnil (by rw [V.x]; exact X2 _ (by omega)) (by rw [V.x, V.seg]; exact F2 _ (by omega)) le, crashed_fresh le _ _ _ _⟩
        · exact ⟨fmH h.s, [], ⟨.inr rfl, .inr rfl⟩, St.crash sg hnil (by rw [V.x]; exact X2 0 (by decide)) (by rw [V.x, V.seg]; exact F2 0 (by decide)) le, crashed_fresh le _ _ _ _⟩
    · obtain ⟨a, b, x2, s2⟩ := S2.ko e2
      have eE : fmE A = snE (snD A 0 0) 1 0 := by rw [fmE, if_neg l3, if_neg (fun h => h e1), if_pos e2]
      have eD : fmD A = snD (snD A 0 0) 1 0 := by rw [fmD, if_neg l3, if_neg (fun h => h e1), if_pos e2]
      rw [eE, eD]
      refine ⟨S2.cap.trans S1.cap, fun e => (e2 e).elim, fun _ => ⟨a, b, fun _ => fun a b c d => ?_⟩, fun e => (e2 (S2.calm (S1.calm e).2).1).elim⟩
      have le : Le (snD (snD A 0 0) 1 0) := fun i hi => by rw [x2, s2]; exact F1.le i hi
      rcases (show h.l = 0 ∨ h.l = 1 by omega) with hz | hz
      · have T1 : St (snD A 0 0) h [] := ⟨d1, G1, hnil, ⟨[], 0, by rw [hz, X1]; rfl, scan_nil⟩, Nat.zero_le _, F1.le⟩
        exact ⟨h, [], ⟨.inl rfl, .inr rfl⟩, T1.crashR F1 x2 s2 S2.sh S2.sf a b c d, crashed_fresh le _ _ _ _⟩
      · have T1 : St (snD A 0 0) h l := ⟨d1, G1, H.okr, ⟨[], 0, by rw [hz, X1o, List.append_nil, ← hz]; exact H.here, scan_nil⟩, by rw [F1 _ (by omega), hz, X1o, ← hz, H.here]; exact Nat.le_refl _, F1.le⟩
        exact ⟨h, l, ⟨.inl rfl, .inl rfl⟩, T1.crashR F1 x2 s2 S2.sh S2.sf a b c d, crashed_fresh le _ _ _ _⟩
  · obtain ⟨a, b, x1, s1⟩ := S1.ko e1
    have eE : fmE A = snE A 0 0 := by rw [fmE, if_neg l3, if_pos e1]
    have eD : fmD A = snD A 0 0 := by rw [fmD, if_neg l3, if_pos e1]
    rw [eE, eD]
    refine ⟨S1.cap, fun e => (e1 e).elim, fun _ => ⟨a, b, fun FA => fun a b c d => ?_⟩, fun e => (e1 (S1.calm e).1).elim⟩
    exact ⟨h, l, ⟨.inl rfl, .inl rfl⟩, H.st.crashR FA x1 s1 S1.sh S1.sf a b c d, crashed_fresh (fun i hi => by rw [x1, s1]; exact H.full.le i hi) _ _ _ _⟩
end

/-- A new disk, formatted. -/
theorem format_new (c : Int) : fmE (AD.new c) = 0 ∧ (fmD (AD.new c)).calls = -1 ∧ (fmD (AD.new c)).cap = c ∧ Run (fmD (AD.new c)) ⟨1, 0, 0⟩ [] := by
  obtain ⟨ld, lh⟩ := (Slots.new c).load0 rfl
  have l3 : ¬ loadE (AD.new c) = 3 := by rw [ld]; decide
  have r0 : ∀ i, rdX (AD.new c) i = [] := fun i => rfl
  have e1 : snE (AD.new c) 0 0 = 0 := by rw [snE, r0]; exact if_pos (Nat.le_refl 0)
  have d1 : snD (AD.new c) 0 0 = AD.new c := by rw [snD, r0]; exact if_pos (Nat.le_refl 0)
  have e2 : snE (AD.new c) 1 0 = 0 := by rw [snE, r0]; exact if_pos (Nat.le_refl 0)
  have d2 : snD (AD.new c) 1 0 = AD.new c := by rw [snD, r0]; exact if_pos (Nat.le_refl 0)
  have eE : fmE (AD.new c) = saveE (AD.new c) ⟨0, 0, 0⟩ := by rw [fmE, if_neg l3, d1, if_neg (fun h => h e1), if_neg (fun h => h e2), d2, lh]
  have eD : fmD (AD.new c) = saveD (AD.new c) ⟨0, 0, 0⟩ := by rw [fmD, if_neg l3, d1, if_neg (fun h => h e1), if_neg (fun h => h e2), d2, lh]
  have hr : (HeadD.mk 0 0 0).next.right = true := by decide
  obtain ⟨a, b, hs⟩ := (Slots.new c).save (h := ⟨0, 0, 0⟩) rfl ⟨by decide, by decide, by decide⟩ (by decide) (by decide)
  obtain ⟨_, _, cd⟩ := save_calm (A := AD.new c) (h := ⟨0, 0, 0⟩) rfl (.inl rfl) hr
  have hn : (HeadD.mk 0 0 0).next = ⟨1, 0, 0⟩ := head_ext4 (by decide +kernel) (by decide +kernel) (by decide +kernel)
  rw [hn] at hs
  have h1 := hs.some (by decide : (1 : Nat) ≠ 0)
  rw [eE, eD]
  refine ⟨a, hs.calm.calls, by rw [cd]; rfl, hs.calm.live, ⟨hs.fits, h1.1, h1.2, hs.safe, ?_⟩, fun r hr => (by cases hr), by rw [cd]; rfl, by rw [cd]; rfl, fun i hi => by rw [cd]; rfl⟩
  have e0 : (saveD (AD.new c) ⟨0, 0, 0⟩).sh 0 = List.replicate 32 0 := hs.one rfl
  show Old ⟨1, 0, 0⟩ ((saveD (AD.new c) ⟨0, 0, 0⟩).sh 0)
  rw [e0]
  exact Old.noughts (by decide)
end Go.Proofs.Ytflfiobicapopaa

namespace Go.Proofs.Ytflfiobicapopaa
open Go.RowKit

theorem next_of {s e l : Nat} (hs : s + 1 < 18446744073709551616) : (HeadD.mk s e l).next = ⟨s + 1, e, l⟩ := head_ext4 (Nat.mod_eq_of_lt hs) rfl rfl
theorem later_of {s e l : Nat} (hs : s + 1 < 18446744073709551616) (he : e + 1 < 18446744073709551616) : (HeadD.mk s e l).later.next = ⟨s + 1, e + 1, l⟩ := head_ext4 (Nat.mod_eq_of_lt hs) (Nat.mod_eq_of_lt he) rfl
theorem over_of {s e l : Nat} (hs : s + 1 < 18446744073709551616) : (HeadD.mk s e l).over.next = ⟨s + 1, e, 1 - l⟩ := head_ext4 (Nat.mod_eq_of_lt hs) rfl rfl

theorem Run.free {A : AD} {h : HeadD} {l : List (List (List UInt8))} (H : Run A h l) : frE A = A.cap - ((bputs l).length : Nat) := by
  have h1 := H.here
  have h2 := H.other
  have h3 := H.sg.l
  rw [frE, H.live]
  show A.cap - ((A.x 0).length : Int) - (A.x 1).length = _
  rcases (show h.l = 0 ∨ h.l = 1 by omega) with e | e
  · rw [e] at h1 h2; rw [h1, h2]; simp
  · rw [e] at h1 h2; rw [h1, show A.x 0 = [] from h2]; simp
theorem Run.size {A : AD} {h : HeadD} {l : List (List (List UInt8))} (H : Run A h l) : rdX A h.l = bputs l := by rw [rdX, H.live]; exact H.here
theorem Run.room {A : AD} {h : HeadD} {l : List (List (List UInt8))} (H : Run A h l) : ((A.x 0).length : Int) + (A.x 1).length = ((bputs l).length : Nat) := by
  have h1 := H.here
  have h2 := H.other
  have h3 := H.sg.l
  rcases (show h.l = 0 ∨ h.l = 1 by omega) with e | e
  · rw [e] at h1 h2; rw [h1, h2]; simp
  · rw [e] at h1 h2; rw [h1, show A.x 0 = [] from h2]; simp

section
variable {w W : World} {L : List (Value × Thing)} {M : List (Nat × Obj)} {p g : Nat} {A : AD} {h : HeadD} {l : List (List (List UInt8))} {tj : TypeId}
/-- A journal that is open, at g, upon the disk at p, with these batches. -/
structure Jr (w W : World) (L : List (Value × Thing)) (M : List (Nat × Obj)) (g p : Nat) (A : AD) (h : HeadD) (l : List (List (List UInt8))) : Prop where
  kj : Kj w W L (MJ M g p 66 h) p A
  run : Run A h l
theorem Jr.mem (_ : Jr w W L M g p A h l) : (g, Obj.cells (jCells g p h) 66 (0, 0)) ∈ MJ M g p 66 h := List.mem_cons_self ..
theorem Jr.l2 (H : Jr w W L M g p A h l) : h.l < 2 := by have := H.run.sg.l; omega
theorem Jr.later {W' : World} (H : Jr w W L M g p A h l) (hb : Below W.heap.size W W') : Jr w W' L M g p A h l := ⟨H.kj.later hb, H.run⟩
theorem Jr.lessL {L' : List (Value × Thing)} (H : Jr w W L M g p A h l) (hs : ∀ q ∈ L', q ∈ L) : Jr w W L' M g p A h l := ⟨H.kj.lessL hs, H.run⟩
theorem Jr.noJ (H : Jr w W L M g p A h l) : Kj w W L M p A := H.kj.drop 1

/-- Open, of a disk that lives. -/
theorem openAny (hk : Kj w W L M p A) (S : St A h l) (hb : h.s + 2 < 18446744073709551616) :
    Calls Try.prog 19 #[.pointer (some ⟨p, 0, none⟩)] W fun x W' => ∃ B, B.cap = A.cap ∧ (A.calls = -1 → B.calls = -1) ∧
      ((∃ g va vc, x = .returned (.tuple #[.pointer (some ⟨g, 0, none⟩), .slice va l.length vc, .int .i64 0]) ∧ Jr w W' ((.slice va l.length vc, Thing.bats l) :: L) M g p B h.later.next l) ∨
       (¬ A.calls = -1 ∧ x = .returned (.tuple #[.pointer none, .slice none 0 0, .int .i64 3]) ∧ Kj w W' L M p B ∧ B.dead = true ∧ (Full A → Back B fun h' l' => (h' = h ∨ h' = h.later.next) ∧ l' = l))) := by
  obtain ⟨ld, lh⟩ := S.sg.load S.live
  obtain ⟨x', hx'⟩ := S.scan
  have D := open_math S hb
  refine (kjOpen hk).mono ?_
  rintro x W' (⟨hne, _⟩ | ⟨_, bs, m, e, hs, hor⟩)
  · exact (hne ld).elim
  · rw [lh] at hs hor
    obtain ⟨rfl, rfl, _⟩ := hs.same hx'
    refine ⟨_, D.cap, fun hc => (D.calm hc).2, ?_⟩
    rcases hor with ⟨hE, rfl, hk'⟩ | ⟨hE, g, va, vc, rfl, hk'⟩
    · obtain ⟨a, b, c⟩ := D.ko hE
      exact .inr ⟨fun hc => hE (D.calm hc).1, by rw [a], hk', b, c⟩
    · exact .inl ⟨g, va, vc, rfl, hk', D.ok hE⟩
theorem openCalm (hk : Kj w W L M p A) (S : St A h l) (hc : A.calls = -1) (hb : h.s + 2 < 18446744073709551616) :
    Calls Try.prog 19 #[.pointer (some ⟨p, 0, none⟩)] W fun x W' => ∃ B g va vc, x = .returned (.tuple #[.pointer (some ⟨g, 0, none⟩), .slice va l.length vc, .int .i64 0]) ∧ B.cap = A.cap ∧ B.calls = -1 ∧ Jr w W' ((.slice va l.length vc, Thing.bats l) :: L) M g p B h.later.next l := by
  refine (openAny hk S hb).mono ?_
  rintro x W' ⟨B, h1, h2, ⟨g, va, vc, hx, hJ⟩ | ⟨hn, _⟩⟩
  · exact ⟨B, g, va, vc, hx, h1, h2 hc, hJ⟩
  · exact (hn hc).elim

/-- Append, whatever is appended. -/
theorem jrAppend (H : Jr w W L M g p A h l) (u : Value) (rows : List (List UInt8)) (hr : RowsAt W u rows) :
    Calls Try.prog 14 #[.pointer (some ⟨g, 0, none⟩), u] W fun x W' => ∃ (E : Int) (B : AD), x = .returned (.int .i64 E) ∧ Kj w W' L (MJ M g p 66 h) p B ∧
      ((bputErr rows ≠ 0 ∧ E = bputErr rows ∧ B = A) ∨ (okRows rows ∧ App A B h l rows E)) := by
  refine (kjJAppend H.kj H.l2 H.mem u rows hr).mono ?_
  rintro x W' ⟨rfl, hk⟩
  by_cases e : bputErr rows = 0
  · have ok := bputErr_zero.1 e
    have eb : bputOf rows = bput rows := if_pos e
    have e1 : jaE A h rows = puE A h.l (bput rows) := by rw [jaE, if_pos e, eb]
    have e2 : jaD A h rows = puD A h.l (bput rows) := by rw [jaD, if_pos e, eb]
    rw [e2] at hk
    rw [e1]
    exact ⟨_, _, rfl, hk, .inr ⟨ok, append_math H.run ok⟩⟩
  · rw [jaD, if_neg e] at hk
    exact ⟨_, A, by rw [jaE, if_neg e], hk, .inl ⟨e, rfl, rfl⟩⟩
/-- Switch, whatever it is switched to. -/
theorem jrSwitch (H : Jr w W L M g p A h l) (hb : h.s + 2 < 18446744073709551616) (u : Value) (rows : List (List UInt8)) (hr : RowsAt W u rows) :
    Calls Try.prog 13 #[.pointer (some ⟨g, 0, none⟩), u] W fun x W' => ∃ (E : Int) (B : AD) (h2 : HeadD), x = .returned (.int .i64 E) ∧ Kj w W' L (MJ M g p 66 h2) p B ∧
      ((bputErr rows ≠ 0 ∧ E = bputErr rows ∧ B = A ∧ h2 = h) ∨ (okRows rows ∧ Swi A B h l rows E h2)) := by
  refine (kjJSwitch H.kj H.l2 H.run.sg.fits u rows hr).mono ?_
  rintro x W' ⟨rfl, hk⟩
  by_cases e : bputErr rows = 0
  · have ok := bputErr_zero.1 e
    have eb : bputOf rows = bput rows := if_pos e
    have e1 : jsE A h rows = swE A h (bput rows) := by rw [jsE, if_pos e, eb]
    have e2 : jsD A h rows = swD A h (bput rows) := by rw [jsD, if_pos e, eb]
    have e3 : jsH A h rows = swH A h (bput rows) := by rw [jsH, if_pos e, eb]
    rw [e2, e3] at hk
    rw [e1]
    exact ⟨_, _, _, rfl, hk, .inr ⟨ok, switch_math H.run ok hb⟩⟩
  · rw [jsD, jsH, if_neg e, if_neg e] at hk
    exact ⟨_, A, h, by rw [jsE, if_neg e], hk, .inl ⟨e, rfl, rfl, rfl⟩⟩
/-- The same where there is no fuse. -/
theorem jrAppend_fit (H : Jr w W L M g p A h l) (hc : A.calls = -1) (u : Value) (rows : List (List UInt8)) (hr : RowsAt W u rows) (ok : okRows rows) (fit : (((bputs l).length + (bput rows).length : Nat) : Int) ≤ A.cap) :
    Calls Try.prog 14 #[.pointer (some ⟨g, 0, none⟩), u] W fun x W' => ∃ B, x = .returned (.int .i64 0) ∧ B.cap = A.cap ∧ B.calls = -1 ∧ Jr w W' L M g p B h (l ++ [rows]) := by
  have hn : ¬ A.cap < ((A.x 0).length : Int) + (A.x 1).length + (bput rows).length := by rw [H.run.room]; omega
  refine (jrAppend H u rows hr).mono ?_
  rintro x W' ⟨E, B, rfl, hk, ⟨hne, _⟩ | ⟨_, P⟩⟩
  · exact (hne (bputErr_zero.2 ok)).elim
  · have e := P.calm hn hc
    exact ⟨B, by rw [e], P.cap, P.still hc, hk, P.ok e⟩
theorem jrAppend_full (H : Jr w W L M g p A h l) (u : Value) (rows : List (List UInt8)) (hr : RowsAt W u rows) (ok : okRows rows) (full : A.cap < (((bputs l).length + (bput rows).length : Nat) : Int)) :
    Calls Try.prog 14 #[.pointer (some ⟨g, 0, none⟩), u] W fun x W' => x = .returned (.int .i64 5) ∧ Jr w W' L M g p A h l := by
  have hn : A.cap < ((A.x 0).length : Int) + (A.x 1).length + (bput rows).length := by rw [H.run.room]; omega
  refine (jrAppend H u rows hr).mono ?_
  rintro x W' ⟨E, B, rfl, hk, ⟨hne, _⟩ | ⟨_, P⟩⟩
  · exact (hne (bputErr_zero.2 ok)).elim
  · obtain ⟨e1, e2⟩ := P.full hn
    subst e2
    exact ⟨by rw [e1], hk, H.run⟩
theorem jrAppend_bad (H : Jr w W L M g p A h l) (u : Value) (rows : List (List UInt8)) (hr : RowsAt W u rows) (bad : bputErr rows ≠ 0) :
    Calls Try.prog 14 #[.pointer (some ⟨g, 0, none⟩), u] W fun x W' => x = .returned (.int .i64 (bputErr rows)) ∧ Jr w W' L M g p A h l := by
  refine (jrAppend H u rows hr).mono ?_
  rintro x W' ⟨E, B, rfl, hk, ⟨_, e1, e2⟩ | ⟨ok, _⟩⟩
  · subst e2
    exact ⟨by rw [e1], hk, H.run⟩
  · exact (bad (bputErr_zero.2 ok)).elim
theorem jrSwitch_fit (H : Jr w W L M g p A h l) (hb : h.s + 2 < 18446744073709551616) (hc : A.calls = -1) (u : Value) (rows : List (List UInt8)) (hr : RowsAt W u rows) (ok : okRows rows) (fit : (((bputs l).length + (bput rows).length : Nat) : Int) ≤ A.cap) :
    Calls Try.prog 13 #[.pointer (some ⟨g, 0, none⟩), u] W fun x W' => ∃ B, x = .returned (.int .i64 0) ∧ B.cap = A.cap ∧ B.calls = -1 ∧ Jr w W' L M g p B h.over.next [rows] := by
  have hn : ¬ A.cap < ((A.x 0).length : Int) + (A.x 1).length + (bput rows).length := by rw [H.run.room]; omega
  refine (jrSwitch H hb u rows hr).mono ?_
  rintro x W' ⟨E, B, h2, rfl, hk, ⟨hne, _⟩ | ⟨_, P⟩⟩
  · exact (hne (bputErr_zero.2 ok)).elim
  · have e := P.calm hn hc
    obtain ⟨R, e2⟩ := P.ok e
    subst e2
    exact ⟨B, by rw [e], P.cap, P.still hc, hk, R⟩
theorem jrSwitch_full (H : Jr w W L M g p A h l) (hb : h.s + 2 < 18446744073709551616) (u : Value) (rows : List (List UInt8)) (hr : RowsAt W u rows) (ok : okRows rows) (full : A.cap < (((bputs l).length + (bput rows).length : Nat) : Int)) :
    Calls Try.prog 13 #[.pointer (some ⟨g, 0, none⟩), u] W fun x W' => x = .returned (.int .i64 5) ∧ Jr w W' L M g p A h l := by
  have hn : A.cap < ((A.x 0).length : Int) + (A.x 1).length + (bput rows).length := by rw [H.run.room]; omega
  refine (jrSwitch H hb u rows hr).mono ?_
  rintro x W' ⟨E, B, h2, rfl, hk, ⟨hne, _⟩ | ⟨_, P⟩⟩
  · exact (hne (bputErr_zero.2 ok)).elim
  · obtain ⟨e1, e2, e3⟩ := P.full hn
    subst e2 e3
    exact ⟨by rw [e1], hk, H.run⟩
theorem jrSwitch_bad (H : Jr w W L M g p A h l) (hb : h.s + 2 < 18446744073709551616) (u : Value) (rows : List (List UInt8)) (hr : RowsAt W u rows) (bad : bputErr rows ≠ 0) :
    Calls Try.prog 13 #[.pointer (some ⟨g, 0, none⟩), u] W fun x W' => x = .returned (.int .i64 (bputErr rows)) ∧ Jr w W' L M g p A h l := by
  refine (jrSwitch H hb u rows hr).mono ?_
  rintro x W' ⟨E, B, h2, rfl, hk, ⟨_, e1, e2, e3⟩ | ⟨ok, _⟩⟩
  · subst e2 e3
    exact ⟨by rw [e1], hk, H.run⟩
  · exact (bad (bputErr_zero.2 ok)).elim
theorem jrFree (H : Jr w W L M g p A h l) : Calls Try.prog 26 #[.pointer (some ⟨g, 0, none⟩)] W fun x W' => x = .returned (.int .i64 (A.cap - ((bputs l).length : Nat))) ∧ W' = W := by
  rw [← H.run.free]
  exact kjJFree H.kj H.mem
theorem jrSize (H : Jr w W L M g p A h l) : Calls Try.prog 21 #[.pointer (some ⟨g, 0, none⟩)] W fun x W' => x = .returned (.int .i64 (((bputs l).length : Nat) : Int)) ∧ Jr w W' L M g p A h l := by
  refine (kjJSize H.kj H.l2 H.mem).mono ?_
  rintro x W' ⟨rfl, hk⟩
  exact ⟨by rw [H.run.size], hk, H.run⟩
theorem jrHead (H : Jr w W L M g p A h l) : Calls Try.prog 12 #[.pointer (some ⟨g, 0, none⟩)] W fun x W' => x = .returned (.agg #[.int .u64 ((h.s : Nat) : Int), .int .u64 ((h.e : Nat) : Int), .int .u8 ((h.l : Nat) : Int)]) ∧ Jr w W' L M g p A h l :=
  (kjJHead H.kj H.mem).mono fun _ _ ⟨hx, hk⟩ => ⟨hx, hk, H.run⟩

theorem formatNew {c : Int} (hk : Kj w W L M p (AD.new c)) : Calls Try.prog 29 #[.pointer (some ⟨p, 0, none⟩)] W fun x W' => ∃ B, x = .returned (.int .i64 0) ∧ Kj w W' L M p B ∧ B.calls = -1 ∧ B.cap = c ∧ Run B ⟨1, 0, 0⟩ [] := by
  obtain ⟨a, b, c', d⟩ := format_new c
  refine (kjFormat hk).mono ?_
  rintro x W' ⟨rfl, hk'⟩
  exact ⟨_, by rw [a], hk', b, c', d⟩

set_option maxRecDepth 100000 in
set_option maxHeartbeats 2000000 in
theorem made_any (hw : Below w.heap.size w W) (c : Int) (h0 : 0 ≤ c) (h1 : c ≤ 1048576) : Calls Try.prog 10 #[.int .i64 c] W fun x W' => ∃ p g A, x = .returned (.tuple #[.pointer (some ⟨p, 0, none⟩), .pointer (some ⟨g, 0, none⟩), .bool true]) ∧ Jr w W' [] [] g p A ⟨2, 1, 0⟩ [] ∧ A.calls = -1 ∧ A.cap = c := by
  have HW := hide hw
  have H0 := hide h0
  have H1 := hide h1
  clear hw h0 h1
  go_enter Try.func10, Try.ntmps10
  go_wp2_with fail
  refine (kjNew (unhide HW) c (unhide H0) (unhide H1)).mono ?_
  rintro x W2 ⟨p, rfl, hk⟩
  have HK := hide hk
  clear hk
  go_wp2_with fail
  refine (formatNew (unhide HK)).mono ?_
  rintro x W3 ⟨B, rfl, hk, hc, hcap, hR⟩
  have HK3 := hide hk
  have HC := hide hc
  have HP := hide hcap
  have HR := hide hR
  clear hk hc hcap hR HK
  go_wp2_with fail
  refine (openCalm (unhide HK3) (unhide HR).st (unhide HC) (by decide)).mono ?_
  rintro x W4 ⟨B2, g, va, vc, rfl, hcap2, hc2, hJ⟩
  have HJ := hide (hJ.lessL (L' := []) (fun q hq => by cases hq))
  have HC2 := hide hc2
  have HP2 := hide (hcap2.trans (unhide HP))
  clear hJ hcap2 hc2 HK3 HC HP HR
  go_wp2_with fail
  go_ret3
  have hJ := unhide HJ
  rw [later_of (by decide) (by decide)] at hJ
  exact ⟨p, g, B2, rfl, hJ, unhide HC2, unhide HP2⟩
end
end Go.Proofs.Ytflfiobicapopaa

namespace Go.Proofs.Ytflfiobicapopaa
open Go.RowKit

theorem bytes_blockJ {W : World} {g : Nat} {t : TypeId} {fr : Nat × Nat} {bs : List UInt8} {cs : Array Value} {n : Nat} (h : W.heap[g]? = some (.cells cs t fr)) (hc : cs = (bs.map bv).toArray) (hn : n = bs.length) (hl : bs.length ≤ 1000) : Bytes W (.slice (some ⟨g, 0, none⟩) n n) bs := by
  subst hn
  refine .inr ⟨⟨g, 0, none⟩, bs.length, rfl, Nat.le_refl _, by unfold maxLen; omega, fun j x hx => ?_⟩
  rw [Addr.add_mid, Nat.zero_add, cell_of_row _ _ _ _ _ _ h, hc]
  simpa using hx
/-- One row of bytes that are written out. -/
theorem lit_row (w : World) (cs : Array Value) (fr : Nat × Nat) (bs : List UInt8) (n : Nat) (hc : cs = (bs.map bv).toArray) (hn : n = bs.length) (hl : bs.length ≤ 1000) :
    RowsAt ((w.alloc (Obj.cells cs 5 fr)).alloc (.cells #[.slice (some ⟨w.heap.size, 0, none⟩) n n] 49)) (.slice (some ⟨w.heap.size + 1, 0, none⟩) 1 1) [bs] ∧ Below w.heap.size w ((w.alloc (Obj.cells cs 5 fr)).alloc (.cells #[.slice (some ⟨w.heap.size, 0, none⟩) n n] 49)) := by
  refine ⟨.inr ⟨w.heap.size + 1, 0, 1, rfl, Nat.le_refl _, fun i x hx => ?_⟩, ((Below.refl _ w).alloc (Nat.le_refl _) _).alloc (by simp) _⟩
  match i, hx with
  | 0, hx =>
    cases hx
    refine ⟨.slice (some ⟨w.heap.size, 0, none⟩) n n, ?_, (bytes_blockJ (heap_alloc_new w _) hc hn hl).alloc _⟩
    have h := heap_alloc_new (w.alloc (Obj.cells cs 5 fr)) (.cells #[.slice (some ⟨w.heap.size, 0, none⟩) n n] 49)
    rw [World.size_alloc] at h
    exact cell_of_row _ _ 0 _ _ _ h

/-- A head's fields. -/
theorem head_field1 (x y z : Value) (W : World) : (Instr.field 37 (.agg #[x, y, z]) 1).run Try.prog W = .ok y W := by
  unfold Instr.field
  simp [run_underlying Try.underlying37, go_sem, asAgg]
theorem head_field2 (x y z : Value) (W : World) : (Instr.field 37 (.agg #[x, y, z]) 2).run Try.prog W = .ok z W := by
  unfold Instr.field
  simp [run_underlying Try.underlying37, go_sem, asAgg]
theorem exA_len : (bput [[97, 98]]).length = 22 := by decide +kernel
theorem exC_len' : (bput [[99]]).length = 21 := by decide +kernel
theorem exZ_len : (bput [List.replicate 60 0]).length = 80 := by decide +kernel
theorem exA_lens : (bputs [[[97, 98]]]).length = 22 := by rw [bputs_one]; exact exA_len
theorem exC_lens : (bputs [[[99]]]).length = 21 := by rw [bputs_one]; exact exC_len'
theorem exA_ok : okRows [[97, 98]] := ⟨by decide, by decide⟩
theorem exC_ok : okRows [[99]] := ⟨by decide, by decide⟩
theorem exZ_ok : okRows [List.replicate 60 0] := ⟨by decide, by decide⟩

set_option maxRecDepth 100000 in
set_option maxHeartbeats 8000000 in
theorem jawake_any (w : World) : Calls Try.prog 9 #[] w fun x w' => x = .returned (.bool true) ∧ Below w.heap.size w w' := by
  have hcv := fun (W : World) (C : Array Value) (n c : Nat) => Lib.run_convert_bytes_const (P := Try.prog) W 49 5 C n c Try.underlying49 Try.underlying5
  obtain ⟨Z, hZ, hmk⟩ := makeBytes 60 (by decide)
  replace hmk : ∀ W : World, (Instr.makeSlice 49 (.int .i64 60) (.int .i64 60)).run Try.prog W = .ok (.slice (some ⟨W.heap.size, 0, none⟩) 60 60) (W.alloc (.cells Z 5)) := fun W => hmk W
  have HZ := hide hZ
  clear hZ
  go_enter Try.func9, Try.ntmps9
  go_wp2_with fail
  refine (made_any (Below.refl _ w) 100 (by decide) (by decide)).mono ?_
  rintro x W2 ⟨p, g, A, rfl, hJ, hc, hp⟩
  have HJ := hide hJ
  have HC := hide hc
  have HP := hide hp
  clear hJ hc hp
  go_wp2_with fail
  obtain ⟨hr2, hb2⟩ := lit_row W2 #[.int .u8 97, .int .u8 98] (2, 3) [97, 98] 2 rfl rfl (by decide)
  refine (jrAppend_fit ((unhide HJ).later hb2) (unhide HC) _ [[97, 98]] hr2 exA_ok (by rw [unhide HP, exA_len]; decide)).mono ?_
  rintro x W3 ⟨B, rfl, hcap, hcalls, hJ⟩
  have HJ3 := hide (show Jr w W3 [] [] g p B ⟨2, 1, 0⟩ [[[97, 98]]] from hJ)
  have HP3 := hide (hcap.trans (unhide HP))
  have HC3 := hide hcalls
  clear hJ hcap hcalls hr2 hb2 HJ HC HP
  go_wp2_with fail
  refine (jrSize (unhide HJ3)).mono ?_
  rintro x W4 ⟨rfl, hJ⟩
  rw [exA_lens]
  have HJ4 := hide hJ
  clear hJ HJ3
  go_wp2_with fail
  refine (jrFree (unhide HJ4)).mono ?_
  rintro x W5 ⟨rfl, rfl⟩
  rw [exA_lens, unhide HP3]
  go_wp2_with fail
  obtain ⟨hr5, hb5⟩ := lit_row W5 Z (0, 0) (List.replicate 60 0) 60 (unhide HZ) (by simp) (by simp)
  refine (jrAppend_full ((unhide HJ4).later hb5) _ [List.replicate 60 0] hr5 exZ_ok (by rw [unhide HP3, exA_lens, exZ_len]; decide)).mono ?_
  rintro x W6 ⟨rfl, hJ⟩
  have HJ6 := hide hJ
  clear hJ hr5 hb5 HJ4 hmk HZ
  go_wp2_with fail
  obtain ⟨hr6, hb6⟩ := lit_row W6 #[.int .u8 99] (1, 2) [99] 1 rfl rfl (by decide)
  refine (jrSwitch_fit ((unhide HJ6).later hb6) (by decide) (unhide HC3) _ [[99]] hr6 exC_ok (by rw [unhide HP3, exA_lens, exC_len']; decide)).mono ?_
  rintro x W7 ⟨B2, rfl, hcap, hcalls, hJ⟩
  rw [over_of (by decide)] at hJ
  have HJ7 := hide (show Jr w W7 [] [] g p B2 ⟨3, 1, 1⟩ [[[99]]] from hJ)
  have HP7 := hide (hcap.trans (unhide HP3))
  have HC7 := hide hcalls
  clear hJ hcap hcalls hr6 hb6 HJ6 HC3 HP3
  go_wp2_with fail
  refine (jrSize (unhide HJ7)).mono ?_
  rintro x W8 ⟨rfl, hJ⟩
  rw [exC_lens]
  have HJ8 := hide hJ
  clear hJ HJ7
  go_wp2_with fail
  refine (jrFree (unhide HJ8)).mono ?_
  rintro x W9 ⟨rfl, rfl⟩
  rw [exC_lens, unhide HP7]
  go_wp2_with fail
  refine (openCalm (unhide HJ8).noJ (unhide HJ8).run.st (unhide HC7) (by decide)).mono ?_
  rintro x W10 ⟨B3, k, va, vc, rfl, hcap, hcalls, hJ⟩
  rw [later_of (by decide) (by decide)] at hJ
  have HJ10 := hide (show Jr w W10 [(.slice va 1 vc, Thing.bats [[[99]]])] [] k p B3 ⟨4, 2, 1⟩ [[[99]]] from hJ)
  clear hJ hcap hcalls HJ8 HC7 HP7
  go_wp2_with fail
  refine (kjNew (w := W10) (Below.refl _ _) 100 (by decide) (by decide)).mono ?_
  rintro x W11 ⟨q, rfl, hk⟩
  have HK11 := hide hk
  clear hk
  go_wp2_with fail
  refine (kjOpen (unhide HK11)).mono ?_
  rintro x W12 (⟨_, hx, hk⟩ | ⟨hne, _⟩)
  case inr => exact absurd ((((Slots.new 100).load0 rfl).1).symm.trans hne) (by decide)
  rw [((Slots.new 100).load0 rfl).1] at hx
  subst hx
  have HB12 := hide hk.bb
  have HJ12 := hide ((unhide HJ10).later hk.bb)
  clear hk HK11 HJ10
  obtain ⟨b1, o1, v1, e1, x1, x3⟩ := ((unhide HJ12).kj.bat (List.mem_cons_self ..)).at (i := 0) (x := [[99]]) rfl
  subst e1
  obtain ⟨ra, rc, er, _⟩ := x3.form
  subst er
  rw [Nat.add_zero] at x1
  have HX3 := hide x3
  clear x3
  go_wp2_with fail
  obtain ⟨hr13, hb13⟩ := lit_row W12 #[.int .u8 99] (1, 2) [99] 1 rfl rfl (by decide)
  refine (low_sameRows _ _ [[99]] [[99]] _ ((unhide HX3).later hb13) hr13 (by decide)).mono ?_
  rintro x W14 ⟨rfl, hb14⟩
  have HB14 : Hid (Below W12.heap.size W12 W14) := hb13.trans (hb14.mono hb13.size)
  have HJ14 := hide ((unhide HJ12).later (unhide HB14))
  clear hb13 hr13 hb14 HJ12 x1 HX3
  rw [decide_eq_true (rfl : ([[99]] : List (List UInt8)) = [[99]])]
  go_wp2_with fail
  refine (jrHead (unhide HJ14)).mono ?_
  rintro x W15 ⟨rfl, hJ⟩
  have HJ15 := hide hJ
  have hfl := head_field1
  clear hJ HJ14
  go_wp2_with fail
  go_ret
  exact ⟨rfl, (unhide HJ15).kj.bb⟩
end Go.Proofs.Ytflfiobicapopaa

namespace Go.Proofs.Ytflfiobicapopaa
open Go.ChangeShapes Go.WideShapes Go.ChangeAt Go.RowKit

section
variable {H : Type} {enc : TypeId × Value → H} {P : Program} {w : World} {base : Nat} {spare : Nat → Bool} {held : Bool}

/-- An array of numbers by value. -/
theorem open_numbers {n : Nat} {t e : TypeId} {k : IntKind} {r : Reach} {b0 : Nat} {v : Value} {d : DataW H} {ps : List MemPlace} (ht : P.underlying t = some (.array n e)) (he : P.underlying e = some (.int k)) (hce : P.cellsOf e = 1) (hC : P.cellsOf t = n)
    (hv : Value.okWide P w r b0 t v) (h : DataW.Trod enc P w base spare held t v d ps) : ∃ ks : List Int, ks.length = n ∧ v = .agg (ks.map (Value.int k)).toArray ∧ ∀ x ∈ ks, (Lit.int k x).wf = true := by
  simp only [Value.okWide, ht] at hv
  obtain ⟨cs, rfl, hsz, _⟩ := hv
  obtain ⟨fuel, hf⟩ := h
  obtain ⟨xs, m, _, _, _, hxl, hxs⟩ := DataW.trod_array ht hf
  have hcs : ∀ i, i < n → ∃ x, cs[i]? = some (.int k x) ∧ (Lit.int k x).wf = true := fun i hi => by
    have h1 := hxs i hi
    rw [hce, Nat.mul_one] at h1
    have hlt : i < cs.size := by omega
    have hx : xs[i]? = some xs[i] := List.getElem?_eq_getElem (by omega)
    have hd : (cs.toList.drop i).take 1 = [cs[i]] := by
      rw [List.drop_eq_getElem_cons (by simpa using hlt)]
      simp
    have h2 : DataW.trod enc P w base spare held m e [cs[i]] = some xs[i] := by
      rw [← hd, ← hx]; exact h1
    obtain ⟨x, e1, _, e2⟩ := DataW.trod_int he h2
    simp at e1
    exact ⟨x, by rw [Array.getElem?_eq_getElem hlt, e1], e2⟩
  refine ⟨(List.range n).map fun i => intOf (cs.getD i undef), by simp, ?_, fun x hx => ?_⟩
  · congr 1
    apply Array.ext_getElem?
    intro i
    by_cases hi : i < n
    · obtain ⟨x, h1, _⟩ := hcs i hi
      rw [h1]
      simp [hi, intOf, Array.getD_eq_getD_getElem?, h1]
    · rw [Array.getElem?_eq_none (by omega)]
      simp [hi]
  · obtain ⟨i, hi, rfl⟩ := List.mem_map.1 hx
    obtain ⟨x, h1, h2⟩ := hcs i (by simpa using hi)
    simpa [intOf, Array.getD_eq_getD_getElem?, h1] using h2

/-- Numbers that are bytes. -/
theorem bytes_numbers {ks : List Int} (h : ∀ x ∈ ks, (Lit.int .u8 x).wf = true) : ∃ bs : List UInt8, bs.length = ks.length ∧ ks.map (Value.int .u8) = bs.map bv := by
  refine ⟨ks.map fun x => UInt8.ofNat x.toNat, by simp, ?_⟩
  rw [List.map_map]
  refine List.map_congr_left fun x hx => ?_
  have hb : 0 ≤ x ∧ x ≤ 255 := by simpa [Lit.wf, IntKind.min, IntKind.max, IntKind.signed, IntKind.bits] using h x hx
  show Value.int .u8 x = bv (UInt8.ofNat x.toNat)
  unfold bv
  rw [UInt8.toNat_ofNat']
  congr 2
  omega

theorem four_of {l : List Int} (h : l.length = 4) : ∃ a b c d, l = [a, b, c, d] := by
  match l, h with
  | [a, b, c, d], _ => exact ⟨a, b, c, d, rfl⟩

theorem four_bytes {l : List UInt8} (h : l.length = 4) : (l.map bv).toArray = #[.int .u8 ((l.getD 0 0).toNat : Nat), .int .u8 ((l.getD 1 0).toNat : Nat), .int .u8 ((l.getD 2 0).toNat : Nat), .int .u8 ((l.getD 3 0).toNat : Nat)] := by
  match l, h with
  | [a, b, c, d], _ => rfl

/-- A slice of bytes that came in. -/
theorem open_bytes {t e : TypeId} {r : Reach} {b0 : Nat} {v : Value} {d : DataW H} {ps : List MemPlace} (ht : P.underlying t = some (.slice e)) (he : P.underlying e = some (.int .u8)) (hce : P.cellsOf e = 1)
    (hv : Value.okWide P w r b0 t v) (h : DataW.Trod enc P w base spare held t v d ps) : ∃ a n c, v = .slice a n c ∧ n ≤ c ∧ ∃ bs : List UInt8, bs.length = n ∧ Bytes w v bs := by
  obtain ⟨a, n, c, rfl⟩ := okWide_slice ht hv
  obtain ⟨fuel, hf⟩ := h
  rcases open_ints ht he hce hf with ⟨hcs, _⟩ | ⟨x, l, c', zs, hcs, _, hl, hm, hz, _, hcell, hwz⟩
  · simp [Value.cells] at hcs
    obtain ⟨rfl, rfl, rfl⟩ := hcs
    exact ⟨none, 0, 0, rfl, Nat.le_refl _, [], rfl, .inl ⟨rfl, rfl⟩⟩
  · simp [Value.cells] at hcs
    obtain ⟨rfl, rfl, rfl⟩ := hcs
    have hzl : n ≤ zs.length := by rw [hz]; split <;> omega
    refine ⟨_, n, c, rfl, hl, (zs.take n).map (fun x => UInt8.ofNat x.toNat), by simp; omega, .inr ⟨x, c, by simp; omega, by simp; omega, hm, fun j u hu => ?_⟩⟩
    have hj : j < n := by have := (List.getElem?_eq_some_iff.1 hu).1; simp at this; omega
    have hw := hwz (zs.getD j 0) (by rw [List.getD_eq_getElem?_getD, List.getElem?_eq_getElem (by omega)]; simp)
    have hb : 0 ≤ zs.getD j 0 ∧ zs.getD j 0 ≤ 255 := by simpa [Lit.wf, IntKind.min, IntKind.max, IntKind.signed, IntKind.bits] using hw
    rw [hcell j (by omega)]
    rw [List.map_map, List.getElem?_map, List.getElem?_take, if_pos hj, List.getElem?_eq_getElem (by omega)] at hu
    simp only [Option.map_some, Function.comp_apply, Option.some.injEq] at hu
    rw [← hu, List.getD_eq_getElem?_getD, List.getElem?_eq_getElem (by omega)]
    rw [List.getD_eq_getElem?_getD, List.getElem?_eq_getElem (by omega)] at hb
    simp only [Option.getD_some] at hb ⊢
    unfold bv
    rw [UInt8.toNat_ofNat']
    congr 2
    omega

/-- A slice of numbers that came in, by index. -/
theorem open_row {t e : TypeId} {k : IntKind} {r : Reach} {b0 : Nat} {v : Value} {d : DataW H} {ps : List MemPlace} (ht : P.underlying t = some (.slice e)) (he : P.underlying e = some (.int k)) (hce : P.cellsOf e = 1)
    (hv : Value.okWide P w r b0 t v) (h : DataW.Trod enc P w base spare held t v d ps) : ∃ a n c, v = .slice a n c ∧ n ≤ c ∧ ∃ z : Nat → Int, (∀ i, (Lit.int k (z i)).wf = true) ∧ (n = 0 ∨ ∃ b o, a = some ⟨b, o, none⟩ ∧ ∀ i, i < n → w.cell? ⟨b, o + i, none⟩ = some (.int k (z i))) := by
  have wf0 : (Lit.int k 0).wf = true := by cases k <;> decide
  obtain ⟨a, n, c, rfl⟩ := okWide_slice ht hv
  obtain ⟨fuel, hf⟩ := h
  rcases open_ints ht he hce hf with ⟨hcs, _⟩ | ⟨x, l, c', zs, hcs, _, hl, hm, hz, _, hcell, hwz⟩
  · simp [Value.cells] at hcs
    obtain ⟨rfl, rfl, rfl⟩ := hcs
    exact ⟨none, 0, 0, rfl, Nat.le_refl _, fun _ => 0, fun _ => wf0, .inl rfl⟩
  · simp [Value.cells] at hcs
    obtain ⟨rfl, rfl, rfl⟩ := hcs
    have hzl : n ≤ zs.length := by rw [hz]; split <;> omega
    refine ⟨_, n, c, rfl, hl, fun i => zs.getD i 0, fun i => ?_, ?_⟩
    · by_cases hi : i < zs.length
      · exact hwz _ (by show zs.getD i 0 ∈ zs; rw [List.getD_eq_getElem?_getD, List.getElem?_eq_getElem hi]; simp)
      · show (Lit.int k (zs.getD i 0)).wf = true
        rw [List.getD_eq_getElem?_getD, List.getElem?_eq_none (by omega)]; exact wf0
    · by_cases hn : n = 0
      · exact .inl hn
      · obtain ⟨b, o, spot⟩ := x
        have hc := hcell 0 (by omega)
        have hspot : spot = none := by simpa [Addr.add] using World.cell?_spot hc
        subst hspot
        exact .inr ⟨b, o, rfl, fun i hi => by have := hcell i (by omega); rwa [Addr.add_mid] at this⟩
end
end Go.Proofs.Ytflfiobicapopaa
