/-
  The document's Get of a value, by a contract.
  Levels that are parsed are not too many.
  Which events the rules allow: as plain functions.
  Events that are nowhere too long.
  States and what is heard, as they lie in memory.
  Where a text stands in a row; the text under a key of a content: by contracts.
  Structs of any size that are loaded, or stored, as one operation; rows that are loaded in a region that draws.
  The event of a type and a key in a state; the text under a key of it: by contracts.
  The text under a key of the event of a type and a key: by a contract.
  A loop over changes that ends at the first that is bad: as one law.
-/
import Derived.Test.YtldegjjaknelgaaGreatDoorAY12
import Derived.Deep.MidRow
import Derived.Laws.Tables
set_option maxRecDepth 100000
set_option maxHeartbeats 16000000
namespace Go.Proofs.YtldegjjaknelgaaGreatDoor
open Go.RowKit
theorem lookJ_step : ∀ {ks : List ByteArray} {l : List J} {s : ByteArray} {n : Nat}, n < ks.length → n < l.length → (∀ m, m < n → ((ks.getD m nix).toList == s.toList) = false) → ((ks.getD n nix).toList == s.toList) = true → lookV ks l s = some (l.getD n J.zero)
 | [], _, _, _, h, _, _, _ => absurd h (by simp)
 | _ :: _, [], _, _, _, h, _, _ => absurd h (by simp)
 | k :: ks, v :: l, s, 0, _, _, _, he => by
  have he : (k.toList == s.toList) = true := by simpa using he
  unfold lookV
  rw [if_pos he]
  simp
 | k :: ks, v :: l, s, n + 1, h1, h2, hm, he => by
  have h0 : (k.toList == s.toList) = false := by have := hm 0 (by omega); simpa using this
  unfold lookV
  rw [h0, if_neg (by decide), lookJ_step (n := n) (by simpa using h1) (by simpa using h2) (fun m h => by have := hm (m + 1) (by omega); simpa using this) (by simpa using he)]
  simp
theorem lookJ_miss : ∀ {ks : List ByteArray} {l : List J} {s : ByteArray}, (∀ m, m < ks.length → m < l.length → ((ks.getD m nix).toList == s.toList) = false) → lookV ks l s = none
 | [], _, _, _ => by unfold lookV; rfl
 | _ :: _, [], _, _ => by unfold lookV; rfl
 | k :: ks, v :: l, s, h => by
  have h0 : (k.toList == s.toList) = false := by have := h 0 (by simp) (by simp); simpa using this
  unfold lookV
  rw [h0, if_neg (by decide)]
  exact lookJ_miss fun m h1 h2 => by have := h (m + 1) (by simpa using h1) (by simpa using h2); simpa using this
theorem szP_keys {d : Nat} {j : J} (h : szJ (d + 1) j = true) : j.ks.length ≤ 100000 := by
 obtain ⟨k, i, t, ks, l⟩ := j
 unfold szJ at h
 simp only [Bool.and_eq_true, decide_eq_true_eq] at h
 exact h.2.1
theorem row_sz {d : Nat} {j : J} (hok : OkJ (d + 2) j) (fit : ByteArray → Bool) (s : ByteArray) : SzN (rowT fit (lookV j.ks j.ls s)).1 := by
 cases h : lookV j.ks j.ls s with
 | none => exact ⟨by simp [rowT], fun p hp => by simp [rowT] at hp⟩
 | some v =>
  have hv : OkJ (d + 1) v := by
   obtain ⟨_, _, _, _, _⟩ := j
   exact hok.parts.2.2.2.2.2 v (lookJ_mem h)
  obtain ⟨k, i, t, ks, l⟩ := v
  have hp := hv.parts
  simp only [rowT, rowsOf, J.ks, J.ls]
  refine ⟨by rw [List.length_map, List.length_zip]; omega, fun p hm => ?_⟩
  obtain ⟨q, hq, rfl⟩ := List.mem_map.1 hm
  exact hp.2.2.2.2.1 q.1 (List.of_mem_zip hq).1
theorem parse_sz {c : J} (hs : szJ 12 c = true) : SzL (parseT (ordT c)).1 := by
 have hok := ordT_okJ hs
 unfold parseT
 split
 · exact ⟨⟨by simp, fun p hp => by simp at hp⟩, ⟨by simp, fun p hp => by simp at hp⟩⟩
 · exact ⟨row_sz (d := 10) hok isU kByUser, row_sz (d := 10) hok isT kByType⟩
theorem parse_err (j : J) : (parseT j).2 = 0 ∨ (parseT j).2 = 1 := by
 unfold parseT
 split
 · exact .inr rfl
 · exact .inl rfl
abbrev tCreate : ByteArray := ⟨#[109, 46, 114, 111, 111, 109, 46, 99, 114, 101, 97, 116, 101]⟩
abbrev tMember : ByteArray := ⟨#[109, 46, 114, 111, 111, 109, 46, 109, 101, 109, 98, 101, 114]⟩
abbrev tPower : ByteArray := ⟨#[109, 46, 114, 111, 111, 109, 46, 112, 111, 119, 101, 114, 95, 108, 101, 118, 101, 108, 115]⟩
abbrev tRules : ByteArray := ⟨#[109, 46, 114, 111, 111, 109, 46, 106, 111, 105, 110, 95, 114, 117, 108, 101, 115]⟩
abbrev nCreator : ByteArray := ⟨#[99, 114, 101, 97, 116, 111, 114]⟩
abbrev nMemb : ByteArray := ⟨#[109, 101, 109, 98, 101, 114, 115, 104, 105, 112]⟩
abbrev nRule : ByteArray := ⟨#[106, 111, 105, 110, 95, 114, 117, 108, 101]⟩
abbrev vJoin : ByteArray := ⟨#[106, 111, 105, 110]⟩
abbrev vInvite : ByteArray := ⟨#[105, 110, 118, 105, 116, 101]⟩
abbrev vLeave : ByteArray := ⟨#[108, 101, 97, 118, 101]⟩
abbrev vBan : ByteArray := ⟨#[98, 97, 110]⟩
abbrev vPublic : ByteArray := ⟨#[112, 117, 98, 108, 105, 99]⟩
abbrev eqT (a b : ByteArray) : Bool := a.toList == b.toList
abbrev Kn := ByteArray × Ev
abbrev zK : Kn := (nix, Ev.zero)
def J.tx : J → ByteArray
 | .mk _ _ t _ _ => t
def txtT : Option J → ByteArray
 | some v => if v.kd = 3 then v.tx else nix
 | none => nix
def textT (c : J) (s : ByteArray) : ByteArray := txtT (getT c s)
def isAt (kind key : ByteArray) (k : Kn) : Bool := k.2.st && (eqT k.2.typ kind && eqT k.2.key key)
def findT (l : List Kn) (kind key : ByteArray) : Option Kn := l.find? (isAt kind key)
def textOfT (l : List Kn) (kind key under : ByteArray) : ByteArray := textT ((findT l kind key).getD zK).2.content under
def membT (l : List Kn) (u : ByteArray) : ByteArray := textOfT l tMember u nMemb
def createT (e : Ev) : Bool := e.st && (eqT e.key ⟨#[]⟩ && (decide (e.prev.length = 0) && (decide (e.auth.length = 0) && (eqT (Id.home e.room) (Id.home e.sender) && eqT (textT e.content nCreator) e.sender))))
def levT (l : List Kn) (creator : ByteArray) : Option Lv := match findT l tPower ⟨#[]⟩ with
 | some k => if (parseT (ordT k.2.content)).2 = 0 then some (parseT (ordT k.2.content)).1 else none
 | none => some (startL creator)
structure Hr where
 e : Ev
 st : List Kn
 cn : ByteArray
 ce : Ev
 l : Lv
 told : Bool
def Hr.own (h : Hr) : Bool := eqT h.e.key h.e.sender
def Hr.s (h : Hr) : Int := usr h.l h.e.sender
def Hr.t (h : Hr) : Int := usr h.l h.e.key
def Hr.joined (h : Hr) : Bool := eqT (membT h.st h.e.sender) vJoin
def Hr.target (h : Hr) : ByteArray := membT h.st h.e.key
def Hr.alone (h : Hr) : Bool := decide (h.e.prev.length = 1) && eqT (h.e.prev.getD 0 nix) h.cn
def Hr.joins (h : Hr) : Bool := h.own && ((h.alone && eqT h.ce.sender h.e.sender) || (!eqT h.target vBan && ((eqT h.target vJoin || eqT h.target vInvite) || eqT (textOfT h.st tRules ⟨#[]⟩ nRule) vPublic)))
def Hr.leaves (h : Hr) : Bool := if h.own then eqT h.target vJoin || eqT h.target vInvite else h.joined && (!(eqT h.target vBan && decide (h.s < h.l.ban)) && (decide (h.l.kick ≤ h.s) && decide (h.t < h.s)))
def Hr.invites (h : Hr) : Bool := h.joined && (!eqT h.target vJoin && (!eqT h.target vBan && decide (h.l.invite ≤ h.s)))
def Hr.bans (h : Hr) : Bool := h.joined && (decide (h.l.ban ≤ h.s) && decide (h.t < h.s))
def Hr.member (h : Hr) : Bool := (h.e.st && isU h.e.key) &&
 (if eqT (textT h.e.content nMemb) vJoin then h.joins else if eqT (textT h.e.content nMemb) vInvite then h.invites else if eqT (textT h.e.content nMemb) vLeave then h.leaves else if eqT (textT h.e.content nMemb) vBan then h.bans else false)
def Hr.changes (h : Hr) : Bool := decide ((parseT (ordT h.e.content)).2 = 0) && (!h.told || mayL h.l (parseT (ordT h.e.content)).1 h.e.sender)
def atT (s : ByteArray) : Bool := decide (1 ≤ s.size) && eqT (s.extract 0 1) ⟨#[64]⟩
def Hr.sends (h : Hr) : Bool := h.joined && (decide (kindL h.l h.e.typ h.e.st ≤ h.s) && (!((h.e.st && atT h.e.key) && !h.own) && (if (h.e.st && eqT h.e.typ tPower) && eqT h.e.key ⟨#[]⟩ then h.changes else true)))
def Hr.ask (h : Hr) : Bool := if eqT h.e.typ tMember then h.member else h.sends
def openT (e : Ev) (l : List Kn) : Option Hr := match findT l tCreate ⟨#[]⟩ with
 | none => none
 | some c => if eqT c.2.room e.room then (match levT l c.2.sender with | none => none | some v => some ⟨e, l, c.1, c.2, v, (findT l tPower ⟨#[]⟩).isSome⟩) else none
def askT (e : Ev) (l : List Kn) : Bool := if eqT e.typ tCreate then createT e else match openT e l with | none => false | some h => h.ask
def judgeT (e : Ev) (l : List Kn) : Int := if shapedE e then (if askT e l then 0 else 110) else 50
structure SzE (e : Ev) : Prop where
 room : e.room.size ≤ 1000000000
 typ : e.typ.size ≤ 1000000000
 sender : e.sender.size ≤ 1000000000
 key : e.key.size ≤ 1000000000
 hash : e.hash.size ≤ 1000000000
 cont : szJ 12 e.content = true
 prev : e.prev.length ≤ 100000
 prevs : ∀ x ∈ e.prev, x.size ≤ 1000000000
 auth : e.auth.length ≤ 100000
 auths : ∀ x ∈ e.auth, x.size ≤ 1000000000
 sigs : e.sigs.length ≤ 100000
 sigss : ∀ x ∈ e.sigs, x.1.size ≤ 1000000000 ∧ x.2.size ≤ 1000000000
def cellsK (k : Kn) (p : Pt) : List Value := .string k.1 :: cellsE k.2 p
def valK (k : Kn) (p : Pt) : Value := .agg (cellsK k p).toArray
def RdE (O : Nat → Prop) (w : World) (p : Option Addr) (c : Nat) (l : List Kn) : Prop :=
 l.length ≤ c ∧ ∀ j, j < l.length → ∃ b o q, p = some ⟨b, o, none⟩ ∧ O b ∧ (∀ n v, (cellsK (l.getD j zK) q)[n]? = some v → w.cell? ⟨b, o + j * 17 + n, none⟩ = some v) ∧ IsE O w (l.getD j zK).2 q
theorem RdE.carry {O O' : Nat → Prop} {w w' : World} {p : Option Addr} {c : Nat} {l : List Kn} (h : RdE O w p c l) (hO : ∀ k, O k → O' k ∧ w'.heap[k]? = w.heap[k]?) : RdE O' w' p c l :=
 ⟨h.1, fun j hj => by
  obtain ⟨b, o, q, hp, hB, h1, h2⟩ := h.2 j hj
  exact ⟨b, o, q, hp, (hO _ hB).1, fun n v hv => (World.cell?_of_block (a := ⟨b, o + j * 17 + n, none⟩) (hO _ hB).2).trans (h1 n v hv), h2.carry hO⟩⟩
theorem RdE.nil (O : Nat → Prop) (w : World) (p : Option Addr) (c : Nat) : RdE O w p c [] := ⟨Nat.zero_le _, fun j hj => absurd hj (by simp)⟩
structure SzK (l : List Kn) : Prop where
 len : l.length ≤ 100000
 cont : ∀ k ∈ l, szJ 13 k.2.content = true
 snd : ∀ k ∈ l, k.2.sender.size ≤ 1000000000
theorem getK_mem {l : List Kn} {j : Nat} (h : j < l.length) : l.getD j zK ∈ l := by
 rw [List.getD_eq_getElem?_getD, List.getElem?_eq_getElem h]; exact List.getElem_mem h
structure Ph where
 e : Pt
 ps : Option Addr
 cs : Nat
 ce : Pt
 l : Pl
def cellsH (h : Hr) (p : Ph) : List Value := cellsE h.e p.e ++ (.slice p.ps h.st.length p.cs :: (cellsK (h.cn, h.ce) p.ce ++ (cellsL h.l p.l ++ [.bool h.told])))
structure IsH (w : World) (hb : Nat) (h : Hr) (p : Ph) : Prop where
 blk : w.heap[hb]? = some (.cells (cellsH h p).toArray 92 (0, 0))
 ev : IsE (· < w.heap.size) w h.e p.e
 st : RdE (· < w.heap.size) w p.ps p.cs h.st
 lv : IsL (· < w.heap.size) w h.l p.l
theorem IsH.below {w w' : World} {hb : Nat} {h : Hr} {p : Ph} (x : IsH w hb h p) (b : Below w.heap.size w w') : IsH w' hb h p :=
 ⟨(b.block hb (objP_lt x.blk)).trans x.blk, x.ev.carry fun k hk => ⟨Nat.lt_of_lt_of_le hk b.size, b.block k hk⟩, x.st.carry fun k hk => ⟨Nat.lt_of_lt_of_le hk b.size, b.block k hk⟩, x.lv.carry fun k hk => ⟨Nat.lt_of_lt_of_le hk b.size, b.block k hk⟩⟩
structure SzH (h : Hr) : Prop where
 e : SzE h.e
 st : SzK h.st
 l : SzL h.l
section
variable {w : World} {hb : Nat} {h : Hr} {p : Ph}
theorem IsH.cell (x : IsH w hb h p) (n : Nat) (v : Value) (hv : (cellsH h p).toArray[n]? = some v) : w.cell? ⟨hb, n, none⟩ = some v := cellP x.blk n v hv
theorem IsH.sender (x : IsH w hb h p) : w.cell? ⟨hb, 2, none⟩ = some (.string h.e.sender) := x.cell 2 _ rfl
theorem IsH.isSt (x : IsH w hb h p) : w.cell? ⟨hb, 3, none⟩ = some (.bool h.e.st) := x.cell 3 _ rfl
theorem IsH.key (x : IsH w hb h p) : w.cell? ⟨hb, 4, none⟩ = some (.string h.e.key) := x.cell 4 _ rfl
theorem IsH.prev (x : IsH w hb h p) : w.cell? ⟨hb, 10, none⟩ = some (.slice p.e.pp h.e.prev.length p.e.cp) := x.cell 10 _ rfl
theorem IsH.state (x : IsH w hb h p) : w.cell? ⟨hb, 16, none⟩ = some (.slice p.ps h.st.length p.cs) := x.cell 16 _ rfl
theorem IsH.cname (x : IsH w hb h p) : w.cell? ⟨hb, 17, none⟩ = some (.string h.cn) := x.cell 17 _ rfl
theorem IsH.csend (x : IsH w hb h p) : w.cell? ⟨hb, 20, none⟩ = some (.string h.ce.sender) := x.cell 20 _ rfl
theorem IsH.ban (x : IsH w hb h p) : w.cell? ⟨hb, 34, none⟩ = some (.int .i64 h.l.ban) := x.cell 34 _ rfl
theorem IsH.kick (x : IsH w hb h p) : w.cell? ⟨hb, 35, none⟩ = some (.int .i64 h.l.kick) := x.cell 35 _ rfl
theorem IsH.invite (x : IsH w hb h p) : w.cell? ⟨hb, 36, none⟩ = some (.int .i64 h.l.invite) := x.cell 36 _ rfl
theorem IsH.isTold (x : IsH w hb h p) : w.cell? ⟨hb, 43, none⟩ = some (.bool h.told) := x.cell 43 _ rfl
end
theorem eqT_comm (a b : ByteArray) : (a.toList == b.toList) = (b.toList == a.toList) := by
 rw [Bool.eq_iff_iff, bytes_eq, bytes_eq]
 exact eq_comm
def IdxP (ks : List ByteArray) (s : ByteArray) (m : Int) : Prop := (m = -1 ∧ ∀ y, y < ks.length → (s.toList == (ks.getD y nix).toList) = false) ∨ ∃ k : Nat, m = (k : Int) ∧ k < ks.length ∧ (s.toList == (ks.getD k nix).toList) = true ∧ ∀ y, y < k → (s.toList == (ks.getD y nix).toList) = false
theorem index_any {O : Nat → Prop} {w : World} {p : Option Addr} {c : Nat} {ks : List ByteArray} (hk : RdK O w p c ks) (hz : ks.length ≤ 100000) (s : ByteArray) :
    Calls Tryz.prog 66 #[.slice p ks.length c, .string s] w fun e w' => (∃ m, e = .returned (.int .i64 m) ∧ IdxP ks s m) ∧ w = w' := by
 obtain ⟨n, hn⟩ : ∃ n, ks.length = n := ⟨_, rfl⟩
 have HN : Hid (ks.length = n) := hn
 have hc := hk.1
 rw [hn] at hz hc ⊢
 clear hn
 go_enter Tryz.func66, Tryz.ntmps66
 go_wp2
 go_loop [8] (fun i => ∃ k : Nat, i = .int .i64 k ∧ k ≤ n ∧ Hid (∀ y, y < k → (s.toList == (ks.getD y nix).toList) = false)) (fun i => n - (intOf i).toNat)
 case atStart => exact ⟨0, rfl, Nat.zero_le _, fun y hy => absurd hy (by omega)⟩
 case round =>
  obtain ⟨k, rfl, hkn, HX⟩ := hrel
  by_cases hlt : k < n
  · have hki : (k : Int) < (n : Int) := by omega
    obtain ⟨a, rfl, _, hca⟩ := hk.2 k (by rw [HN.out]; exact hlt)
    have HS : Hid ((s.toList == (ks.getD k nix).toList) = false → ∀ y, y < k + 1 → (s.toList == (ks.getD y nix).toList) = false) := fun h y hy => (Nat.lt_succ_iff_lt_or_eq.1 hy).elim (HX.out y) fun e => by rw [e]; exact h
    have HY : Hid ((s.toList == (ks.getD k nix).toList) = true → IdxP ks s k) := fun h => .inr ⟨k, rfl, by rw [HN.out]; exact hlt, h, HX.out⟩
    generalize ks.getD k nix = u at hca HS HY
    cases he : (s.toList == u.toList) with
    | true =>
     have HZ := (show Hid _ from HY.out he)
     go_wp2
     go_ret
     exact ⟨⟨_, rfl, HZ.out⟩, rfl⟩
    | false =>
     have HZ := (show Hid _ from HS.out he)
     go_wp2
     go_round
     case rel => exact ⟨k + 1, by go_num, hlt, HZ⟩
     case measure => simp [intOf]; omega
  · obtain rfl : k = n := by omega
    go_wp2
    go_ret
    exact ⟨⟨_, rfl, .inl ⟨rfl, fun y hy => HX.out y (by rw [← HN.out]; exact hy)⟩⟩, rfl⟩
theorem look_of_idx {ks : List ByteArray} {l : List J} {s : ByteArray} {m : Int} (h : IdxP ks s m) : (m < 0 ∧ lookV ks l s = none) ∨ ((l.length : Int) ≤ m ∧ lookV ks l s = none) ∨ ∃ k : Nat, m = (k : Int) ∧ k < ks.length ∧ k < l.length ∧ lookV ks l s = some (l.getD k J.zero) := by
 rcases h with ⟨rfl, h⟩ | ⟨k, rfl, hk, he, hb⟩
 · exact .inl ⟨by decide, lookJ_miss fun y h1 _ => by rw [eqT_comm]; exact h y h1⟩
 · by_cases hl : k < l.length
   · exact .inr (.inr ⟨k, rfl, hk, hl, lookJ_step hk hl (fun y hy => by rw [eqT_comm]; exact hb y hy) (by rw [eqT_comm]; exact he)⟩)
   · exact .inr (.inl ⟨by omega, lookJ_miss fun y _ h2 => by rw [eqT_comm]; exact hb y (by omega)⟩)
theorem atext_any {O : Nat → Prop} {w : World} {j : J} {k i : Int} {t : ByteArray} {pk pl : Option Addr} {nk ck nl cl : Nat} (hj : isJ O w j [.int .i64 k, .int .i64 i, .string t, .slice pk nk ck, .slice pl nl cl]) (hO : ∀ b, O b → b < w.heap.size) (hz : j.ks.length ≤ 100000) (s : ByteArray) :
    Calls Tryz.prog 31 #[.agg #[.int .i64 k, .int .i64 i, .string t, .slice pk nk ck, .slice pl nl cl], .string s] w fun e w' => e = .returned (.string (textT j s)) ∧ Below w.heap.size w w' := by
 obtain ⟨kx, ix, tx, ks, l⟩ := j
 obtain ⟨rfl, rfl, rfl, rfl, rfl, hk, hcl, hjs⟩ := isJP_parts hj
 clear hj
 obtain ⟨y, hy⟩ : ∃ y, textT (.mk k i t ks l) s = y := ⟨_, rfl⟩
 rw [hy]
 have HO5 : Hid (k = 5 → y = txtT (lookV ks l s)) := fun h => by rw [← hy]; show txtT (if k = 5 then lookV ks l s else none) = _; rw [if_pos h]
 have HON : Hid (¬ k = 5 → y = nix) := fun h => by rw [← hy]; show txtT (if k = 5 then lookV ks l s else none) = _; rw [if_neg h]; rfl
 clear hy
 simp only [J.ks] at hz
 obtain ⟨wA, hwA⟩ : ∃ wA, wA = w.alloc (.cells #[.int .i64 k, .int .i64 i, .string t, .slice pk ks.length ck, .slice pl l.length cl] 25) := ⟨_, rfl⟩
 have hbA : Below w.heap.size w wA := by rw [hwA]; exact (Below.refl _ _).alloc (Nat.le_refl _) _
 have hA : wA.heap[w.heap.size]? = some (.cells #[.int .i64 k, .int .i64 i, .string t, .slice pk ks.length ck, .slice pl l.length cl] 25 (0, 0)) := by rw [hwA]; exact newP _
 have hI := index_any (hk.carry (O' := O) (w' := wA) fun x hx => ⟨hx, hbA.block x (hO x hx)⟩) hz s
 have HLK : Hid (∀ m, IdxP ks s m → (m < 0 ∧ lookV ks l s = none) ∨ ((l.length : Int) ≤ m ∧ lookV ks l s = none) ∨ ∃ k : Nat, m = (k : Int) ∧ k < ks.length ∧ k < l.length ∧ lookV ks l s = some (l.getD k J.zero)) := fun m h => look_of_idx h
 have HJS : Hid (isJs O w pl 0 l) := hjs
 obtain ⟨nk, hnk⟩ : ∃ n, ks.length = n := ⟨_, rfl⟩
 obtain ⟨nl, hnl⟩ : ∃ n, l.length = n := ⟨_, rfl⟩
 have HNL : Hid (l.length = nl) := hnl
 rw [hnk] at hz hA hI hwA HLK ⊢
 rw [hnl] at hcl hA hwA HLK ⊢
 have i0 := cellP hA 0 _ rfl; have i3 := cellP hA 3 _ rfl; have i4 := cellP hA 4 _ rfl
 clear hnk hnl hA hk hjs
 generalize lookV ks l s = o at HLK HO5
 by_cases k5 : k = 5
 · subst k5
   have HY := (show Hid _ from HO5.out rfl)
   clear HO5 HON
   go_enter Tryz.func31, Tryz.ntmps31
   go_upto_region 1 with fail
   rw [← hwA]
   clear hwA
   go_upto_region 2 with (go_at_call 66; refine hI.mono ?_; rintro e w1 ⟨⟨m, rfl, hm⟩, rfl⟩)
   rcases HLK.out m hm with ⟨h1, h2⟩ | ⟨h1, h2⟩ | ⟨n, h1, h2, h3, h4⟩
   · subst h2
     clear hI hm HLK
     go_wp2
     go_ret
     exact ⟨by rw [HY.out]; rfl, hbA⟩
   · subst h2
     clear hI hm HLK
     have h0 : ¬ m < 0 := by omega
     have hd : decide (m < 0) = false := decide_eq_false h0
     have hd2 : decide ((nl : Int) ≤ m) = true := decide_eq_true h1
     go_wp2
     go_ret
     exact ⟨by rw [HY.out]; rfl, hbA⟩
   · subst h4 h1
     clear hI hm HLK
     have hni : (n : Int) < (nl : Int) := by omega
     obtain ⟨lb, lo, cs, hpl, hOb, hcells, hyj⟩ := isJs.at l 0 n HJS.out (by rw [HNL.out]; exact h3)
     subst hpl
     obtain ⟨kv, iv, tv, pv, nv, cv, qv, mv, dv, rfl⟩ := isJ_shape hyj
     have HV : Hid ((l.getD n J.zero).kd = kv ∧ (l.getD n J.zero).tx = tv) := by
      generalize l.getD n J.zero = y at hyj
      obtain ⟨_, _, _, _, _⟩ := y
      obtain ⟨rfl, rfl, rfl, _⟩ := isJP_parts hyj
      exact ⟨rfl, rfl⟩
     have cc : ∀ m v, [Value.int .i64 kv, .int .i64 iv, .string tv, .slice pv nv cv, .slice qv mv dv][m]? = some v → wA.cell? ⟨lb, lo + n * 5 + m, none⟩ = some v := fun m v h => by
      have := hcells m v h
      rw [Nat.zero_add] at this
      exact (World.cell?_of_block (a := ⟨lb, lo + n * 5 + m, none⟩) (hbA.block lb (hO lb hOb))).trans this
     have y0 : wA.cell? ⟨lb, lo + n * 5, none⟩ = some (.int .i64 kv) := cc 0 _ rfl
     have y2 := cc 2 _ rfl
     clear cc hcells hyj
     have hd : decide ((n : Int) < 0) = false := decide_eq_false (by omega)
     have hd2 : decide (nl ≤ n) = false := decide_eq_false (by omega)
     by_cases k3 : kv = 3
     · subst k3
       have HT : Hid (txtT (some (l.getD n J.zero)) = tv) := by show _ = _; simp only [txtT, HV.out.1, HV.out.2, if_true]
       go_wp2
       go_ret
       exact ⟨by rw [HY.out, HT.out]; rfl, hbA⟩
     · have HT : Hid (txtT (some (l.getD n J.zero)) = ⟨#[]⟩) := by show _ = _; simp only [txtT, HV.out.1, if_neg k3]; rfl
       go_wp2
       go_ret
       exact ⟨by rw [HY.out, HT.out]; rfl, hbA⟩
 · have HY := (show Hid _ from HON.out k5)
   clear HO5 HON
   go_enter Tryz.func31, Tryz.ntmps31
   go_upto_region 1 with fail
   rw [← hwA]
   clear hwA
   go_wp2_with (go_at_call 66; refine hI.mono ?_; rintro e w1 ⟨⟨m, rfl, hm⟩, rfl⟩)
   go_ret
   exact ⟨by rw [HY.out]; rfl, hbA⟩
theorem keep_setRow (w : World) (g : Nat) (cs : Array Value) : Keep (OneP g) w (w.setRow g cs) := by
 refine ⟨rfl, rfl, rfl, by simp [World.setRow], fun k _ hk => ?_⟩
 unfold World.setRow
 simp only [Array.getElem?_modify]
 rw [if_neg (fun e => hk (by unfold OneP; exact e.symm))]
theorem range_of {w : World} {b t : Nat} {fr : Nat × Nat} {cs : List Value} (h : w.heap[b]? = some (.cells cs.toArray t fr)) : w.rangeAt b 0 cs := fun j v hv => by
 rw [Nat.zero_add]
 exact cellP h j v (by simpa using hv)
theorem range_sub {w : World} {b t : Nat} {fr : Nat × Nat} {cs ds : List Value} (h : w.heap[b]? = some (.cells cs.toArray t fr)) (o : Nat) (hd : (cs.drop o).take ds.length = ds) : w.rangeAt b o ds := fun j v hv => by
 refine cellP h (o + j) v ?_
 rw [← hd, List.getElem?_take] at hv
 split at hv
 · rw [List.getElem?_drop] at hv
   simpa using hv
 · cases hv
theorem wpList_store_row {ops : Array Oper} {rest : List Oper} {op : Oper} {a : Act} {w : World} {Q : Exit → Act → World → Prop} (hgd : op.guard = none) (ty : TypeId) (x y : Operand) (ho : op.op = .store ty x y)
    (g t : Nat) (old cells : Array Value) (hx : a.eval x = .pointer (some ⟨g, 0, none⟩)) (hy : a.eval y = .agg cells) (hg : w.heap[g]? = some (.cells old t (0, 0)))
    (hi : (Tryz.prog.info? ty).map (·.size) = some cells.size) (hs : old.size = cells.size) (h1 : cells.all (·.oneCell') = true)
    (h : wpList Tryz.prog ops Q rest (a.put op.dst undef) (w.setRow g cells)) : wpList Tryz.prog ops Q (op :: rest) a w := by
 refine wpList_plain hgd fun K' hK' => ?_
 unfold Oper.wp execOp
 simp only [ho, hx, hy, Instr.storeAt, Instr.sureAddr, Sem.run_bind, Sem.run_pure, Result.andThen_ok, run_storeVar_row w g t ty old cells hg hi hs h1]
 exact hK' _ _ h
theorem one_E (e : Ev) (p : Pt) : (cellsE e p).toArray.all (·.oneCell') = true := all_oneCell_toArray fun v hv => by
 simp only [cellsE, List.mem_cons, List.not_mem_nil, or_false] at hv
 rcases hv with rfl | rfl | rfl | rfl | rfl | rfl | rfl | rfl | rfl | rfl | rfl | rfl | rfl | rfl | rfl | rfl <;> rfl
theorem one_K (k : Kn) (p : Pt) : (cellsK k p).toArray.all (·.oneCell') = true := all_oneCell_toArray fun v hv => by
 simp only [cellsK, cellsE, List.mem_cons, List.not_mem_nil, or_false] at hv
 rcases hv with rfl | rfl | rfl | rfl | rfl | rfl | rfl | rfl | rfl | rfl | rfl | rfl | rfl | rfl | rfl | rfl | rfl <;> rfl
theorem infoK : (Tryz.prog.info? 41).map (·.size) = some 17 := by kernel_rfl
theorem infoE : (Tryz.prog.info? 28).map (·.size) = some 16 := by kernel_rfl
theorem infoL : (Tryz.prog.info? 47).map (·.size) = some 9 := by kernel_rfl
theorem loadK_at {w : World} {b o : Nat} {k : Kn} {q : Pt} (h : w.rangeAt b o (cellsK k q)) : (loadVar 41 ⟨b, o, none⟩).run Tryz.prog w = .ok (valK k q) w := run_loadVar_mid w b o 41 (cellsK k q) _ h Tryz.underlying41 rfl infoK
theorem wpList_load_midg {ops : Array Oper} {rest : List Oper} {o : Oper} {a : Act} {w : World} {Q : Exit → Act → World → Prop} (hg : Region.wanted o (yielded ops a.tmps) = true) (ty : TypeId) (m : Operand) (hop : o.op = Op.load ty m) (b ofs : Nat) (hm : a.eval m = .pointer (some ⟨b, ofs, none⟩)) (cs : List Value)
    (hl : (Instr.loadAt ty (.pointer (some ⟨b, ofs, none⟩))).run Tryz.prog w = .ok (.agg cs.toArray) w)
    (hK : wpList Tryz.prog ops Q rest (a.put o.dst (.agg cs.toArray)) w) : wpList Tryz.prog ops Q (o :: rest) a w := by
 simp only [wpList, hg, if_true]
 refine Or.inl ?_
 unfold Oper.wp
 simp [execOp, hop, hm, hl, Result.andThen]
 exact hK
def FindP (O : Nat → Prop) (w' : World) : Option Kn → Ending → Prop
 | some k, e => ∃ q, e = .returned (.tuple #[valK k q, .bool true]) ∧ IsE O w' k.2 q
 | none, e => e = .returned (.tuple #[valK zK Pt.zero, .bool false])
theorem find_miss {l : List Kn} {kind key : ByteArray} {k : Nat} (h : findT (l.take k) kind key = none) (hk : k < l.length) (he : isAt kind key (l.getD k zK) = false) : findT (l.take (k + 1)) kind key = none := by
 unfold findT at h ⊢
 rw [takeP_one (z := zK) hk, List.find?_append, h, List.find?_cons, he]
 rfl
theorem find_hit {l : List Kn} {kind key : ByteArray} {k : Nat} (h : findT (l.take k) kind key = none) (hk : k < l.length) (he : isAt kind key (l.getD k zK) = true) : findT l kind key = some (l.getD k zK) := by
 unfold findT at h ⊢
 conv => lhs; rw [takeP_all (z := zK) hk, List.find?_append, h, List.find?_cons, he]
 rfl
theorem find_any {O : Nat → Prop} {w : World} {p : Option Addr} {c : Nat} {l : List Kn} (h : RdE O w p c l) (hO : ∀ b, O b → b < w.heap.size) (hz : l.length ≤ 100000) (kind key : ByteArray) :
    Calls Tryz.prog 81 #[.slice p l.length c, .string kind, .string key] w fun e w' => FindP O w' (findT l kind key) e ∧ Below w.heap.size w w' := by
 obtain ⟨W0, hW0⟩ : ∃ W0, W0 = w.alloc (.cells (cellsK zK Pt.zero).toArray 41) := ⟨_, rfl⟩
 have hb0 : Below w.heap.size w W0 := by rw [hW0]; exact (Below.refl _ _).alloc (Nat.le_refl _) _
 have HR : Hid (W0.heap[w.heap.size]? = some (.cells (cellsK zK Pt.zero).toArray 41 (0, 0))) := by show _ = _; rw [hW0]; exact newP _
 have HBE : Hid (∀ cs : Array Value, Below w.heap.size w (W0.setRow w.heap.size cs)) := fun cs => hb0.trans ((keep_setRow W0 w.heap.size cs).below hb0.size fun q hq e => by unfold OneP at e; omega)
 obtain ⟨n, hn⟩ : ∃ n, l.length = n := ⟨_, rfl⟩
 have HN : Hid (l.length = n) := hn
 have hc := h.1
 rw [hn] at hz hc ⊢
 clear hn
 go_enter Tryz.func81, Tryz.ntmps81
 go_upto_region 1 with fail
 change Code.wp _ _ _ _ (w.alloc (.cells (cellsK zK Pt.zero).toArray 41))
 rw [← hW0]
 clear hW0
 go_wp2
 go_loop [12] (fun i => ∃ k : Nat, i = .int .i64 k ∧ k ≤ n ∧ Hid (findT (l.take k) kind key = none)) (fun i => n - (intOf i).toNat)
 case atStart => exact ⟨0, rfl, Nat.zero_le _, rfl⟩
 case round =>
  obtain ⟨k, rfl, hk, HF⟩ := hrel
  by_cases hlt : k < n
  · have hki : (k : Int) < (n : Int) := by omega
    have hkl : k < l.length := by rw [HN.out]; exact hlt
    obtain ⟨b, o, q, rfl, hOb, hcells, hE⟩ := h.2 k hkl
    have hbl := hO b hOb
    have HM : Hid (isAt kind key (l.getD k zK) = false → findT (l.take (k + 1)) kind key = none) := find_miss HF.out hkl
    have HH : Hid (isAt kind key (l.getD k zK) = true → findT l kind key = some (l.getD k zK)) := find_hit HF.out hkl
    generalize l.getD k zK = x at hcells hE HM HH
    have cc : ∀ m v, (cellsK x q)[m]? = some v → W0.cell? ⟨b, o + k * 17 + m, none⟩ = some v := fun m v hv => (hb0.cell (p := ⟨b, o + k * 17 + m, none⟩) hbl).trans (hcells m v hv)
    have HCC : Hid (W0.rangeAt b (o + k * 17) (cellsK x q)) := cc
    have d2 : W0.cell? ⟨b, o + k * 17 + 2, none⟩ = some (.string x.2.typ) := cc 2 _ rfl
    have d4 : W0.cell? ⟨b, o + k * 17 + 4, none⟩ = some (.bool x.2.st) := cc 4 _ rfl
    have d5 : W0.cell? ⟨b, o + k * 17 + 5, none⟩ = some (.string x.2.key) := cc 5 _ rfl
    clear hcells cc
    simp only [isAt] at HM HH
    have HX : Hid (∀ e w', e = Ending.returned (.tuple #[valK x q, .bool true]) → Below w.heap.size w w' → findT l kind key = some x → FindP O w' (findT l kind key) e ∧ Below w.heap.size w w') := fun e w' he hb hf => ⟨by rw [hf]; exact ⟨q, he, hE.carry fun y hy => ⟨hy, hb.block y (hO y hy)⟩⟩, hb⟩
    clear hE
    generalize x.2.st = st at d4 HM HH
    generalize x.2.typ = typ at d2 HM HH
    generalize x.2.key = ke at d5 HM HH
    cases st with
    | false =>
     have HMM := (show Hid _ from HM.out (by simp))
     go_wp2
     go_round
     case rel => exact ⟨k + 1, by go_num, hlt, HMM⟩
     case measure => simp [intOf]; omega
    | true =>
     cases h1 : (typ.toList == kind.toList) with
     | false =>
      have HMM := (show Hid _ from HM.out (by simp [h1]))
      go_wp2
      go_round
      case rel => exact ⟨k + 1, by go_num, hlt, HMM⟩
      case measure => simp [intOf]; omega
     | true =>
      cases h2 : (ke.toList == key.toList) with
      | false =>
       have HMM := (show Hid _ from HM.out (by simp [h1, h2]))
       go_wp2
       go_round
       case rel => exact ⟨k + 1, by go_num, hlt, HMM⟩
       case measure => simp [intOf]; omega
      | true =>
       have HHH := (show Hid _ from HH.out (by simp [h1, h2]))
       clear HM HH
       go_wp2_with (first
        | (refine wpList_load_mid rfl 41 _ rfl b (o + k * 17) rfl (cellsK x q) _ HCC.out Tryz.underlying41 rfl infoK ?_)
        | (refine wpList_store_row rfl 41 _ _ rfl w.heap.size 41 _ (cellsK x q).toArray rfl rfl HR.out infoK rfl (one_K x q) ?_))
       refine bodyPost_ret (resultsP_cell_tmp rfl _ _ _ rfl (loadK_at (range_of (setRow_heap _ _ _ _ _ _ HR.out)))) rfl ?_
       exact HX.out _ _ rfl (HBE.out _) HHH.out
  · obtain rfl : k = n := by omega
    have HNO : Hid (findT l kind key = none) := by
     have := HF.out
     rw [List.take_of_length_le (by rw [HN.out]; omega)] at this
     exact this
    go_wp2_with (refine wpList_store_row rfl 41 _ _ rfl w.heap.size 41 _ (cellsK zK Pt.zero).toArray rfl rfl HR.out infoK rfl (one_K zK Pt.zero) ?_)
    refine bodyPost_ret (resultsP_cell_tmp rfl _ _ _ rfl (loadK_at (range_of (setRow_heap _ _ _ _ _ _ HR.out)))) rfl ?_
    refine ⟨?_, HBE.out _⟩
    rw [HNO.out]
    rfl
theorem sz_zero (d : Nat) : szJ d J.zero = true := by
 cases d with
 | zero => unfold szJ; rfl
 | succ d => unfold szJ; rfl
theorem find_sz {l : List Kn} (hz : SzK l) (kind key : ByteArray) : szJ 13 ((findT l kind key).getD zK).2.content = true := by
 cases h : findT l kind key with
 | none => exact sz_zero 13
 | some k => exact hz.cont k (List.mem_of_find?_eq_some h)
theorem find_got {O : Nat → Prop} {w : World} {p : Option Addr} {c : Nat} {l : List Kn} (h : RdE O w p c l) (hO : ∀ b, O b → b < w.heap.size) (hz : l.length ≤ 100000) (kind key : ByteArray) :
    Calls Tryz.prog 81 #[.slice p l.length c, .string kind, .string key] w fun e w' => (∃ q, e = .returned (.tuple #[valK ((findT l kind key).getD zK) q, .bool (findT l kind key).isSome]) ∧ IsE O w' ((findT l kind key).getD zK).2 q) ∧ Below w.heap.size w w' := by
 refine (find_any h hO hz kind key).mono fun e w' hh => ?_
 generalize findT l kind key = o at hh
 cases o with
 | none => exact ⟨⟨Pt.zero, hh.1, isE_zero _ _⟩, hh.2⟩
 | some k =>
  obtain ⟨⟨q, he, hi⟩, hb⟩ := hh
  exact ⟨⟨q, he, hi⟩, hb⟩
theorem textOf_any {O : Nat → Prop} {w : World} {p : Option Addr} {c : Nat} {l : List Kn} (h : RdE O w p c l) (hO : ∀ b, O b → b < w.heap.size) (hz : SzK l) (kind key under : ByteArray) :
    Calls Tryz.prog 123 #[.slice p l.length c, .string kind, .string key, .string under] w fun e w' => e = .returned (.string (textOfT l kind key under)) ∧ Below w.heap.size w w' := by
 have hF := find_got h hO hz.len kind key
 have HSZ : Hid (szJ 13 ((findT l kind key).getD zK).2.content = true) := find_sz hz kind key
 have HT : Hid (textOfT l kind key under = textT ((findT l kind key).getD zK).2.content under) := rfl
 clear h hz
 generalize (findT l kind key).isSome = bo at hF
 generalize (findT l kind key).getD zK = k at hF HSZ HT
 go_enter Tryz.func123, Tryz.ntmps123
 go_upto_region 2 with (first
  | (go_at_call 81; refine hF.mono ?_; rintro e w1 ⟨⟨q, rfl, hq⟩, hb1⟩; unfold valK)
  | (refine wpList_store_row rfl 41 _ _ rfl w1.heap.size 41 _ (cellsK k q).toArray rfl rfl (newP _) infoK rfl (one_K k q) ?_))
 have hbA : Below w1.heap.size w1 ((w1.alloc (.cells (cellsK zK Pt.zero).toArray 41)).setRow w1.heap.size (cellsK k q).toArray) :=
  ((Below.refl _ _).alloc (Nat.le_refl _) _).trans ((keep_setRow _ w1.heap.size _).below (by simp) fun q hq e => by unfold OneP at e; omega)
 have hX : ((w1.alloc (.cells (cellsK zK Pt.zero).toArray 41)).setRow w1.heap.size (cellsK k q).toArray).heap[w1.heap.size]? = some (.cells (cellsK k q).toArray 41 (0, 0)) := setRow_heap _ _ _ _ _ _ (newP _)
 change Code.wp _ _ _ _ ((w1.alloc (.cells (cellsK zK Pt.zero).toArray 41)).setRow w1.heap.size (cellsK k q).toArray)
 generalize (w1.alloc (.cells (cellsK zK Pt.zero).toArray 41)).setRow w1.heap.size (cellsK k q).toArray = W1 at hbA hX
 have HR : Hid (W1.rangeAt w1.heap.size 6 [.int .i64 k.2.content.kind, .int .i64 k.2.content.int, .string k.2.content.text, .slice q.pk k.2.content.keys.length q.ck, .slice q.pl k.2.content.list.length q.cl]) := range_sub hX 6 rfl
 have hTx := atext_any (O := O) (w := W1) (j := k.2.content) (hq.cont.carry fun x hx => ⟨hx, hbA.block x (Nat.lt_of_lt_of_le (hO x hx) hb1.size)⟩) (fun b hb => Nat.lt_of_lt_of_le (hO b hb) (Nat.le_trans hb1.size hbA.size)) (szP_keys HSZ.out) under
 clear hF hX hq
 go_wp2_with (first
  | (refine wpList_load_mid rfl 25 _ rfl w1.heap.size 6 rfl _ _ HR.out Tryz.underlying25 rfl (by kernel_rfl) ?_)
  | (go_at_call 31; refine hTx.mono ?_; rintro e w2 ⟨rfl, hb2⟩))
 go_ret
 exact ⟨by rw [HT.out]; rfl, belowP hb1 (belowP hbA hb2)⟩
end Go.Proofs.YtldegjjaknelgaaGreatDoor
namespace Go.Proofs.YtldegjjaknelgaaGreatDoor
open Go.RowKit Go.Maps Go.Shelf
theorem ownFrom_keep {β : Type} {S : Nat → Prop} {B : Nat} {w₀ : World} (hB : w₀.heap.size ≤ B) : OwnFrom B (fun (_ : β) W => Keep S w₀ W) :=
 fun _ _ _ _ hs hg hr => ⟨hg.os.trans hs.os, hg.tape.trans hs.tape, hg.output.trans hs.output, Nat.le_trans hs.size hg.size, fun k hk hS => (hg.block k (Nat.lt_of_lt_of_le hk hs.size) (fun e => by have := (hr k e.symm).1; omega)).trans (hs.block k hk hS)⟩
theorem keepsFrom_below {B : Nat} {W W' : World} (h : Below W.heap.size W W') : KeepsFrom B W W' := ⟨h.size, fun k _ _ hk _ => (h.block k (objP_lt hk)).trans hk⟩
theorem any_snoc (f : Chg → Bool) (l : List Chg) (x : Chg) : (l ++ [x]).any f = (l.any f || f x) := by rw [List.any_append]; simp
theorem any_pre {f : Chg → Bool} {a b : List Chg} (h : a <+: b) (ha : a.any f = true) : b.any f = true := by
 obtain ⟨t, rfl⟩ := h
 rw [List.any_append, ha]; rfl
def chgPost (f : Chg → Bool) (R : Nat) (x : Chg) (W : World) : Exit → Act → World → Prop
 | .normal, _, W' => f x = false ∧ Below W.heap.size W W'
 | .ret, _, W' => f x = true ∧ ∃ W4, Below W.heap.size W W4 ∧ W' = W4.setCell ⟨R, 0, none⟩ (.bool false)
 | _, _, _ => False
theorem wp_chg {n : Nat} (h1 : 2 ≤ n) {g : Operand} {sp sb : Tmp} {assign body : Code} {Q : Exit → Act → World → Prop} {a : Act} {w : World} {B1 B2 R : Nat} (f : Chg → Bool)
    (hg : a.eval g = .func (.func 150) #[] #[.pointer (some ⟨B1, 0, none⟩), .pointer (some ⟨B2, 0, none⟩)])
    {O : Nat → Prop} {xa xb : Nms} {p q : Option Addr} {c d : Nat} (ha : RdN O w p c xa) (hb : RdN O w q d xb) (hO : ∀ k, O k → k < w.heap.size) (hza : SzN xa) (hzb : SzN xb)
    (hc1 : w.cell? ⟨B1, 0, none⟩ = some (.slice p xa.length c)) (hc2 : w.cell? ⟨B2, 0, none⟩ = some (.slice q xb.length d)) (hB1 : B1 < w.heap.size) (hB2 : B2 < w.heap.size)
    (hR : w.heap[R]? = some (.cells #[.bool false] 4 (0, 0)))
    (hassign : ∀ (l : Nat) (x : Chg) (W : World) (K : Act → World → Prop), K { tmps := (a.tmps.setIfInBounds sp (valC x)).setIfInBounds sb (.pointer (some ⟨W.heap.size, 0, none⟩)), defers := [] } (W.alloc (.cells (cellsC x).toArray 143)) →
     assign.wpIn (Fence.wide.inRound l) (n - 1 - 1) Tryz.prog (Exit.then K (fun _ _ _ => False)) { tmps := a.tmps.setIfInBounds sp (valC x), defers := [] } W)
    (hbody : ∀ (l : Nat) (x : Chg) (W : World) (Bx : Nat), Below w.heap.size w W → W.heap[Bx]? = some (.cells (cellsC x).toArray 143 (0, 0)) → w.heap.size ≤ Bx →
     body.wpIn (Fence.wide.inRound l) (n - 1 - 1) Tryz.prog (chgPost f R x W) { tmps := (a.tmps.setIfInBounds sp (valC x)).setIfInBounds sb (.pointer (some ⟨Bx, 0, none⟩)), defers := [] } W)
    (hdone : ∀ (D : Nat) (W : World), w.heap.size ≤ D → quiet f xa xb = true → Below w.heap.size w W → W.heap[D]? = some (.deferred (some [])) → Q .normal { a with defers := { target := .collected D, args := #[] } :: a.defers } W)
    (hstop : ∀ (D : Nat) (W : World), w.heap.size ≤ D → quiet f xa xb = false → Keep (OneP R) w W → W.cell? ⟨R, 0, none⟩ = some (.bool false) → W.heap[D]? = some (.deferred (some [])) → Q .ret { a with defers := { target := .collected D, args := #[] } :: a.defers } W) :
    (Code.rangeFunc g #[sp] assign body).wp Tryz.prog Q a w := by
 refine (wpIn_wide (n := n)).1 ?_
 refine wpIn_rangeFunc_ownH rfl (by omega) (gf := 150) (lb := #[.pointer (some ⟨B1, 0, none⟩), .pointer (some ⟨B2, 0, none⟩)]) hg trivial (enters_of Tryz.func150 (by kernel_rfl) rfl)
  (changes_seq (n - 1) B1 B2 (by omega) ha hb hO hza hzb hc1 hc2 hB1 hB2) Lay.trans (fun W l o o' _ h hc hw => Lay.putObj W l o o' h hc hw) (Below.refl _ _) (fun _ => rfl)
  (fun pre W => (pre.any f = false) ∧ Below w.heap.size w W)
  (fun cd pre W => (cd = .ret ∧ pre.any f = true ∧ W.cell? ⟨R, 0, none⟩ = some (.bool false)) ∧ Keep (OneP R) w W)
  (OwnFrom.and (ownFrom_pure _ (fun pre : List Chg => pre.any f = false)) (ownFrom_below (Nat.le_refl _) (Nat.le_refl _)))
  (fun cd => OwnFrom.and (Own.from (fun s A B row hs hg hr => ⟨hs.1, hs.2.1, cell_kept hs.2.2 hg hr⟩) _) (ownFrom_keep (Nat.le_refl _)))
  ⟨rfl, Below.refl _ _⟩
  (fun x a' W => ∃ Bx, w.heap.size ≤ Bx ∧ W.heap[Bx]? = some (.cells (cellsC x).toArray 143 (0, 0)) ∧ a' = { tmps := (a.tmps.setIfInBounds sp (valC x)).setIfInBounds sb (.pointer (some ⟨Bx, 0, none⟩)), defers := [] })
  ?hAx ?assign ?body ?done ?stop
 case hAx =>
  rintro x a' s A B row ⟨Bx, hB, hh, e⟩ hg hr
  refine ⟨Bx, hB, ?_, e⟩
  exact (hg.block Bx (objP_lt hh) (fun er => by
   obtain ⟨_, o, ho, hc⟩ := hr Bx er.symm
   rw [hh] at ho
   cases ho
   cases hc)).trans hh
 case assign =>
  rintro l pre x W K ⟨hp, hB⟩ hK
  have hal : Below W.heap.size W (W.alloc (.cells (cellsC x).toArray 143)) := (Below.refl _ _).alloc (Nat.le_refl _) _
  have hfold : (Array.foldl (fun (t : Array Value) (y : Tmp × Value) => match y with | (p, v) => t.setIfInBounds p v) a.tmps (#[sp].zip #[valC x])) = a.tmps.setIfInBounds sp (valC x) := by simp
  rw [hfold]
  exact hassign l x W K (hK _ _ (keepsFrom_below hal) (Lay.of_below hal) ⟨hp, belowP hB hal⟩ ⟨W.heap.size, hB.size, newP _, rfl⟩)
 case body =>
  rintro l pre x a' W _ _ ⟨hp, hB⟩ ⟨Bx, hBx, hh, rfl⟩ _
  refine wpIn_mono (hbody l x W Bx hB hh hBx) ?_
  intro e a2 W2 h
  cases e with
  | normal =>
   obtain ⟨hf, hb2⟩ := h
   exact ⟨keepsFrom_below hb2, Lay.of_below hb2, by rw [any_snoc, hp, hf]; rfl, belowP hB hb2⟩
  | ret =>
   obtain ⟨hf, W4, hb4, rfl⟩ := h
   refine ⟨(keepsFrom_below hb4).trans ((KeepsOthers.setCell _ _ _).from _), ⟨rfl, by rw [any_snoc, hf, Bool.or_true], ?_⟩, ?_⟩
   · have hR4 := ((belowP hB hb4).block R (objP_lt hR)).trans hR
     exact World.cell?_setCell_same' _ _ _ (by rw [cellP hR4 0 _ rfl]; rfl)
   · exact Keep.setCell (S := OneP R) (p := ⟨R, 0, none⟩) (Keep.of_below (belowP hB hb4)) (fun _ => (rfl : R = R)) _
  | exit id => exact h.elim
  | goto t => exact h.elim
  | panic ch => exact h.elim
  | outgrown => exact h.elim
 case done =>
  rintro D ys W hD rfl ⟨hp, hB⟩ hK
  exact hdone D W hD (by unfold quiet; rw [hp]; rfl) hB hK
 case stop =>
  rintro D cd pre W hD hpre ⟨⟨rfl, hp, hcl⟩, hk⟩ hK
  refine wpIn_wide.2 ?_
  exact wp_ret (hstop D W hD (by unfold quiet; rw [any_pre hpre hp]; rfl) hk hcl hK)
end Go.Proofs.YtldegjjaknelgaaGreatDoor
