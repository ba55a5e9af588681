/- The statements' own helpers written and short, over RecOk. No statement of the seat is proved here. -/
import Derived.Test.YtfaoailiamcchaaRecTells
import Derived.Maps.AppendAt
namespace Go.Proofs.Ytfaoailiamcchaa
open Go.RowKit

def iv (n : Nat) : Value := .int .i64 ((n : Nat) : Int)
/-- A row of numbers of our own. -/
structure IntsO (w : World) (v : Value) (ns : List Nat) (W : World) : Prop where
  own : W.ownsRow 0 3 1 v ns.length (ns.map iv)
  new : ∀ k, v.ownBlock = some k → w.heap.size ≤ k
theorem IntsO.start (w : World) : IntsO w (.slice none 0 0) [] w := ⟨World.ownsRow_nil _ _ _ _, fun k hk => (by cases hk)⟩
theorem IntsO.later {w W W' : World} {v : Value} {ns : List Nat} (h : IntsO w v ns W) (hk : ∀ k, v.ownBlock = some k → k < W.heap.size → W'.heap[k]? = W.heap[k]?) : IntsO w v ns W' := ⟨row_keeps h.own fun k e => hk k e (h.own.lt k e).2, h.new⟩
theorem infoInt0 : (Try.prog.info? 3).map (fun i => (i.zero, i.size, i.bytes)) = some (some (.int .i64 0), 1, 8) := by kernel_rfl

/-- Bytes and numbers, each in memory of its own. -/
structure Two (w : World) (v1 : Value) (bs : List UInt8) (v2 : Value) (ns : List Nat) (W : World) : Prop where
  o1 : Own w v1 bs W
  o2 : IntsO w v2 ns W
  ap : ∀ k, v1.ownBlock = some k → v2.ownBlock ≠ some k
theorem Two.start (w : World) : Two w (.slice none 0 0) [] (.slice none 0 0) [] w := ⟨Own.start w, IntsO.start w, fun k hk => (by cases hk)⟩
theorem Two.later {w W W' : World} {v1 v2 : Value} {bs : List UInt8} {ns : List Nat} (h : Two w v1 bs v2 ns W) (hb : Below W.heap.size W W') : Two w v1 bs v2 ns W' := ⟨h.o1.later hb, h.o2.later fun k _ hk => hb.block k hk, h.ap⟩
theorem Two.grown1 {w W W' : World} {v1 v1' v2 : Value} {bs cs : List UInt8} {ns : List Nat} (h : Two w v1 bs v2 ns W) (r1 : W'.ownsRow 0 5 1 v1' cs.length (cs.map bv)) (r2 : W.grownBy W' v1.ownBlock) (r3 : v1'.ownBlock = v1.ownBlock ∨ ∃ k, v1'.ownBlock = some k ∧ W.heap.size ≤ k) : Two w v1' cs v2 ns W' :=
  ⟨h.o1.grown r1 r2 r3, h.o2.later fun k e hk => r2.block k hk fun e' => h.ap k e'.symm e, fun k hk e => by
    rcases r3 with e1 | ⟨k', e1, h1⟩
    · exact h.ap k (by rw [← e1]; exact hk) e
    · rw [e1] at hk
      cases hk
      have := (h.o2.own.lt k e).2
      omega⟩
theorem Two.grown2 {w W W' : World} {v1 v2 v2' : Value} {bs : List UInt8} {ns ms : List Nat} (h : Two w v1 bs v2 ns W) (r1 : W'.ownsRow 0 3 1 v2' ms.length (ms.map iv)) (r2 : W.grownBy W' v2.ownBlock) (r3 : v2'.ownBlock = v2.ownBlock ∨ v2'.ownBlock = some W.heap.size) : Two w v1 bs v2' ms W' := by
  have hb : Below w.heap.size w W' := h.o1.bb.grown r2 h.o1.bb.size h.o2.new
  refine ⟨⟨own_keeps h.o1.own fun k hk => r2.block k (h.o1.own.lt k hk).2 fun e => h.ap k hk e.symm, h.o1.new, hb⟩, ⟨r1, fun k hk => ?_⟩, fun k hk e => ?_⟩
  · rcases r3 with e | e
    · exact h.o2.new k (by rw [← e]; exact hk)
    · rw [e] at hk; cases hk; exact h.o1.bb.size
  · rcases r3 with e1 | e1
    · exact h.ap k hk (by rw [← e1]; exact e)
    · rw [e1] at e
      cases e
      have := (h.o1.own.lt _ hk).2
      omega

/-- A number is appended to a row of ours. -/
theorem wpList_append_int {w W : World} {ops : Array Oper} {rest : List Oper} {op : Oper} {a : Act} {Q : Exit → Act → World → Prop}
    (hg : op.guard = none) (s x : Operand) (hop : op.op = Op.call { callee := Callee.builtin Builtin.append, args := #[s, x], argTypes := #[42, 42] })
    (v v1 : Value) (bs : List UInt8) (ns : List Nat) (m g cap : Nat) (hsv : a.eval s = v) (hT : Two w v1 bs v ns W) (hx : a.eval x = .slice (some ⟨g, 0, none⟩) 1 cap)
    (h0 : W.cell? ⟨g, 0, none⟩ = some (iv m)) (hl : ns.length ≤ 1048576)
    (hK : ∀ v' W', Two w v1 bs v' (ns ++ [m]) W' → wpList Try.prog ops Q rest (a.put op.dst v') W') :
    wpList Try.prog ops Q (op :: rest) a W := by
  obtain ⟨tj, htj, hy0, hy1, hy2⟩ := info_parts infoInt0
  refine wpList_append_own_at W hg s x 42 hop 0 3 tj (.int .i64 0) 1 8 Try.underlying42 htj hy0 hy1 hy2 rfl (by decide) v _ _ hsv hT.o2.own ⟨g, 0, none⟩ 1 cap [iv m] hx rfl (fun j u hj => by
    match j, hj with
    | 0, hj => cases hj; exact h0) (fun u hu => by simp at hu; subst hu; rfl) (by unfold maxLen; omega) (by omega) (Nat.zero_le _) ?_
  intro v' W' r1 r2 _ r3
  refine hK v' W' (hT.grown2 ?_ r2 r3)
  rw [List.length_append, List.map_append]
  exact r1

/-- What written answers. -/
def WroteAt (w : World) (rs : List RecD) (e : Ending) (w' : World) : Prop :=
  ((∀ r ∈ rs, r.right) ∧ ∃ v1 v2, e = .returned (.tuple #[v1, v2, .bool true]) ∧ Two w v1 (puts rs) v2 (endsOf rs) w') ∨
  ((∃ r ∈ rs, ¬ r.right) ∧ e = .returned (.tuple #[.slice none 0 0, .slice none 0 0, .bool false]) ∧ Below w.heap.size w w')

set_option maxRecDepth 100000 in
set_option maxHeartbeats 8000000 in
theorem written_any (hc : RecOk) (u : Value) (rs : List RecD) (w : World) (h : RecsAt w u rs) (hl : rs.length ≤ 1048576) (hd : ∀ i, i < rs.length → (rs.getD i ⟨0, []⟩).d.length ≤ 1048576) (hp : (puts rs).length ≤ 1099511627776) :
    Calls Try.prog 20 #[u] w fun e w' => WroteAt w rs e w' := by
  obtain ⟨ua, uc, rfl, _⟩ := h.form
  obtain ⟨n, hn⟩ : ∃ n, n = rs.length := ⟨_, rfl⟩
  rw [← hn] at h hl hd ⊢
  obtain ⟨ti, hti, hz0, hz1, hz2⟩ := infoByte
  obtain ⟨tj, htj, hy0, hy1, hy2⟩ := info_parts infoInt0
  have HC := hide hc
  have HH := hide h
  have HN := hide hn
  have HD := hide hd
  have HP := hide hp
  have HP2 : Hid (∀ j, (puts (rs.take j)).length ≤ (puts rs).length) := puts_len_take rs
  clear hc h hn hd hp
  go_enter Try.func20, Try.ntmps20
  go_wp2_with fail
  go_loopw [5, 6, 13] (fun v1 v2 i W => ∃ j : Nat, j ≤ n ∧ i = .int .i64 j ∧ (∀ r ∈ rs.take j, r.right) ∧ Two w v1 (puts (rs.take j)) v2 (endsOf (rs.take j)) W) (fun _ _ i _ => n - (intOf i).toNat)
  case atStart => exact ⟨0, Nat.zero_le _, rfl, fun r hr => (by simp at hr), Two.start w⟩
  case round =>
    obtain ⟨j, hj, rfl, hrt, hT⟩ := hrel
    have HRT := hide hrt
    have HT := hide hT
    clear hrt hT
    by_cases hlt : j < n
    · obtain ⟨b1, o1, d1, m1, k1, e1, x1, x2, x3⟩ := ((unhide HH).later (unhide HT).o1.bb).at hlt (unhide HN).symm
      subst e1
      have i1 : (j : Int) < (n : Int) := by omega
      have e2j : j * 2 = 2 * j := by omega
      have X3 := hide x3
      have HSN := hide (take_snoc rs (j := j) (by have := unhide HN; omega))
      have HDL := hide (unhide HD j hlt)
      clear x3
      generalize rs.getD j ⟨0, []⟩ = r at *
      go_upto_region 6 with fail
      have HT2 := hide ((unhide HT).later ((Below.refl _ wr).alloc (Nat.le_refl _) (.cells #[.int .u8 (r.k.toNat : Nat), .slice d1 m1 k1] 24)))
      have X4 := hide ((unhide X3).alloc (.cells #[.int .u8 (r.k.toNat : Nat), .slice d1 m1 k1] 24))
      clear HT X3 x1 x2
      go_wp2_with fail
      refine ((unhide HC).put r d1 m1 k1 _ (unhide X4) (by have := (bytes_len (unhide X4)).1; have := unhide HDL; omega)).mono ?_
      rintro e w7 ⟨x7, rfl, hX, hb⟩
      have HT3 := hide ((unhide HT2).later hb)
      have HX := hide hX
      clear hX hb HT2 X4
      by_cases h0 : putErr r = 0
      · have HRR := hide (putErr_zero.1 h0)
        have HPO : Hid (putOf r = r.put) := if_pos h0
        rw [h0]
        go_wp2_with (at_builtin; refine wpList_append_bytes _ rfl _ _ 22 rfl 5 ti (.int .u8 0) Try.underlying22 hti hz0 hz1 hz2 rfl _ _ rfl (unhide HT3).o1.own _ _ rfl (unhide HX) (by rw [unhide HPO, ← List.length_append, ← puts_snoc, ← unhide HSN]; have := unhide HP2 (j + 1); have := unhide HP; omega) ?_)
        rintro v8 w8 r1 r2 r3
        have HT4 : Hid (Two w v8 (puts (rs.take (j + 1))) u6 (endsOf (rs.take j)) w8) := by
          have h := (unhide HT3).grown1 (cs := puts (rs.take j) ++ putOf r) (by simpa using r1) r2 r3
          rw [unhide HPO, ← puts_snoc, ← unhide HSN] at h
          exact h
        clear r1 r2 r3 HT3 HX
        obtain ⟨a8, c8, e8, _⟩ := (bytes_of_owns (unhide HT4).o1.own).form
        subst e8
        have HT5 := hide ((unhide HT4).later ((Below.refl _ w8).alloc (Nat.le_refl _) (.cells #[.int .i64 (((puts (rs.take (j + 1))).length : Nat) : Int)] 3)))
        have HES : Hid (endsOf (rs.take (j + 1)) = endsOf (rs.take j) ++ [(puts (rs.take (j + 1))).length]) := by rw [unhide HSN]; exact ends_snoc _ _
        clear HT4
        go_wp2_with (at_builtin; refine wpList_append_int rfl _ _ rfl _ _ _ _ (puts (rs.take (j + 1))).length w8.heap.size 1 rfl (unhide HT5) rfl (by simp; rfl) (by rw [ends_len]; have := List.length_take_le j rs; omega) ?_)
        rintro v9 w9 hT6
        rw [← unhide HES] at hT6
        have HT6 := hide hT6
        clear hT6 HT5
        go_wp2_with fail
        refine ⟨⟨j + 1, by omega, by go_num, fun r' hr' => ?_, unhide HT6⟩, by simp [intOf]; omega⟩
        rw [unhide HSN, List.mem_append, List.mem_singleton] at hr'
        rcases hr' with hr' | rfl
        · exact unhide HRT r' hr'
        · exact unhide HRR
      · have HE : Hid (∃ r ∈ rs, ¬ r.right) := ⟨r, List.mem_of_mem_take (i := j + 1) (by rw [unhide HSN]; simp), fun h => h0 (putErr_zero.2 h)⟩
        go_wp2_with fail
        go_ret3
        exact .inr ⟨unhide HE, rfl, (unhide HT3).o1.bb⟩
    · have ej : j = n := by omega
      subst ej
      have HTK : Hid (rs.take j = rs) := List.take_of_length_le (by rw [unhide HN]; exact Nat.le_refl _)
      rw [unhide HTK] at HRT HT
      go_wp2_with fail
      go_ret3
      exact .inl ⟨unhide HRT, _, _, rfl, unhide HT⟩

/-- What short answers. -/
def isShort (rs : List RecD) : Prop := (∀ r ∈ rs, r.d.length ≤ 200) ∧ rs.length ≤ 30
def ShortAt (w : World) (rs : List RecD) (e : Ending) (w' : World) : Prop := (∃ b : Bool, e = .returned (.bool b) ∧ (b = true ↔ isShort rs)) ∧ Below w.heap.size w w'

set_option maxRecDepth 100000 in
set_option maxHeartbeats 4000000 in
theorem short_any (u : Value) (rs : List RecD) (w : World) (h : RecsAt w u rs) (hl : rs.length ≤ 1048576) (hd : ∀ i, i < rs.length → (rs.getD i ⟨0, []⟩).d.length ≤ 1048576) :
    Calls Try.prog 21 #[u] w fun e w' => ShortAt w rs e w' := by
  obtain ⟨ua, uc, rfl, _⟩ := h.form
  obtain ⟨n, hn⟩ : ∃ n, n = rs.length := ⟨_, rfl⟩
  rw [← hn] at h hl hd ⊢
  have HH := hide h
  have HN := hide hn
  have HD := hide hd
  clear h hn hd
  go_enter Try.func21, Try.ntmps21
  go_wp2_with fail
  go_loopw [7] (fun i W => ∃ j : Nat, j ≤ n ∧ i = .int .i64 j ∧ (∀ r ∈ rs.take j, r.d.length ≤ 200) ∧ Below w.heap.size w W) (fun i _ => n - (intOf i).toNat)
  case atStart => exact ⟨0, Nat.zero_le _, rfl, fun r hr => (by simp at hr), Below.refl _ w⟩
  case round =>
    obtain ⟨j, hj, rfl, hrt, hB⟩ := hrel
    have HRT := hide hrt
    have HB := hide hB
    clear hrt hB
    by_cases hlt : j < n
    · obtain ⟨b1, o1, d1, m1, k1, e1, x1, x2, x3⟩ := ((unhide HH).later (unhide HB)).at hlt (unhide HN).symm
      subst e1
      have i1 : (j : Int) < (n : Int) := by omega
      have e2j : j * 2 = 2 * j := by omega
      have HM := hide (bytes_len x3).1
      have HSN := hide (take_snoc rs (j := j) (by have := unhide HN; omega))
      have HDL := hide (unhide HD j hlt)
      have HB2 := hide ((unhide HB).alloc (unhide HB).size (.cells #[.int .u8 ((rs.getD j ⟨0, []⟩).k.toNat : Nat), .slice d1 m1 k1] 24))
      clear x3
      generalize rs.getD j ⟨0, []⟩ = r at *
      by_cases h2 : m1 ≤ 200
      · have h2' : ¬ (m1 : Int) > 200 := by omega
        go_wp2_with fail
        refine ⟨⟨j + 1, by omega, by go_num, fun r' hr' => ?_, unhide HB2⟩, by simp [intOf]; omega⟩
        rw [unhide HSN, List.mem_append, List.mem_singleton] at hr'
        rcases hr' with hr' | rfl
        · exact unhide HRT r' hr'
        · rw [unhide HM]; exact h2
      · have h2' : (m1 : Int) > 200 := by omega
        go_wp2_with fail
        go_ret
        refine ⟨⟨false, rfl, ⟨(fun h => by cases h), fun h => ?_⟩⟩, unhide HB2⟩
        have := h.1 r (List.mem_of_mem_take (i := j + 1) (by rw [unhide HSN]; simp))
        rw [unhide HM] at this
        omega
    · have ej : j = n := by omega
      subst ej
      have HTK : Hid (rs.take j = rs) := List.take_of_length_le (by rw [unhide HN]; exact Nat.le_refl _)
      rw [unhide HTK] at HRT
      go_wp2_with fail
      go_ret
      refine ⟨⟨_, rfl, ?_⟩, unhide HB⟩
      have := unhide HN
      unfold isShort
      simp
      exact ⟨fun h => ⟨unhide HRT, by omega⟩, fun h => by omega⟩
end Go.Proofs.Ytfaoailiamcchaa
