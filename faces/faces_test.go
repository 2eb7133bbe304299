// Package faces holds the calls of all layers against the chapters: it builds only where each has its exact signature.
package faces

import (
	"testing"

	"rialto/act"
	"rialto/api"
	"rialto/area"
	"rialto/audit"
	"rialto/book"
	"rialto/bound"
	"rialto/check"
	"rialto/coin"
	"rialto/command"
	"rialto/deal"
	"rialto/disk"
	"rialto/frame"
	"rialto/goods"
	"rialto/hall"
	"rialto/image"
	"rialto/journal"
	"rialto/label"
	"rialto/line"
	"rialto/market"
	"rialto/money"
	"rialto/name"
	"rialto/post"
	"rialto/quota"
	"rialto/realm"
	"rialto/reply"
	"rialto/room"
	"rialto/round"
	"rialto/script"
	"rialto/sector"
	"rialto/server"
	"rialto/snap"
	"rialto/spy"
	"rialto/state"
	"rialto/sum"
	"rialto/talk"
	"rialto/thing"
	"rialto/trade"
	"rialto/vault"
	"rialto/view"
	"rialto/walk"
	"rialto/wire"
)

// Layer 1.
var (
	_ func(api.Label) bool                 = label.Right
	_ func(api.Label, api.Label) bool      = label.Leq
	_ func(api.Label, api.Label) api.Label = label.Join
	_ func(api.Label, api.Label) api.Label = label.Meet
	_ func(api.Label, api.Label) int       = label.Cmp
	_ func(int) (api.Label, api.Errno)     = label.Hall
	_ func(api.Label) []int                = label.Bits
	_ func(api.Label) []byte               = label.Bytes
	_ func([]byte) (api.Label, api.Errno)  = label.Read
	_ func(api.Label) string               = label.Print
	_ func(string) (api.Label, api.Errno)  = label.Parse
)

// Layer 2.
var (
	_ func([]byte, uint64, int) []byte  = wire.Num
	_ func([]byte, string) []byte       = wire.Text
	_ func([]byte) *wire.Scan           = wire.From
	_ func(*wire.Scan, int) uint64      = (*wire.Scan).Num
	_ func(*wire.Scan, int) string      = (*wire.Scan).Text
	_ func(*wire.Scan, int) []byte      = (*wire.Scan).Take
	_ func(*wire.Scan, bool, api.Errno) = (*wire.Scan).Rule
	_ func(*wire.Scan) int              = (*wire.Scan).Left
	_ func(*wire.Scan) api.Errno        = (*wire.Scan).Fault
	_ func(*wire.Scan) api.Errno        = (*wire.Scan).End
)

// Layer 3.
var (
	_ func(string) bool          = name.Right
	_ func(string) bool          = name.Text
	_ func([]string, string) int = name.Index
	_ func([]string) bool        = name.Apart
	_ func(string) string        = name.Clean
)

// Layer 4.
var (
	_ func([]byte) uint32         = sum.Of
	_ func(uint32, []byte) uint32 = sum.On
	_ func([]byte) uint16         = sum.Short
)

// Layer 5.
var (
	_ func(api.Realm) bool                = realm.Right
	_ func(api.Realm, int, int) bool      = realm.Leq
	_ func(api.Realm, api.Label) int      = realm.Place
	_ func(api.Realm, int) int            = realm.HallOf
	_ func(api.Realm, int) int            = realm.GuildOf
	_ func(api.Realm, int) []int          = realm.Guilds
	_ func(api.Realm, string) int         = realm.Account
	_ func(api.Realm) []byte              = realm.Bytes
	_ func([]byte) (api.Realm, api.Errno) = realm.Read
)

// Layer 6.
var (
	_ func([]int, func(int) bool) *quota.Row[int]        = quota.Of[int]
	_ func(*quota.Row[int]) (int, api.Errno)             = (*quota.Row[int]).First
	_ func(*quota.Row[int], int) bool                    = (*quota.Row[int]).Has
	_ func(*quota.Row[int]) []int                        = (*quota.Row[int]).Slots
	_ func(*quota.Row[int]) int                          = (*quota.Row[int]).Count
	_ func(*quota.Row[int], int, int) ([]int, api.Errno) = (*quota.Row[int]).Put
	_ func(*quota.Row[int], int) ([]int, int, api.Errno) = (*quota.Row[int]).Add
)

// Layer 7.
var (
	_ func(int) (*disk.Disk, api.Errno)         = disk.New
	_ func(*disk.Disk) int                      = (*disk.Disk).Size
	_ func(*disk.Disk, int, []byte) api.Errno   = (*disk.Disk).Write
	_ func(*disk.Disk, int) ([]byte, api.Errno) = (*disk.Disk).Read
	_ func(*disk.Disk) api.Errno                = (*disk.Disk).Flush
	_ func(*disk.Disk, int)                     = (*disk.Disk).Fuse
	_ func(*disk.Disk, []byte) api.Errno        = (*disk.Disk).Crash
	_ func(*disk.Disk) bool                     = (*disk.Disk).Off
	_ func(*disk.Disk) int                      = (*disk.Disk).Waits
	_ func(*disk.Disk) *disk.Disk               = (*disk.Disk).Clone
)

// Layer 8.
var (
	_ func(uint64, []byte) ([]byte, api.Errno) = sector.Seal
	_ func([]byte) (uint64, []byte, api.Errno) = sector.Open
)

// Layer 9.
var (
	_ func(int) int                                          = area.Room
	_ func(*disk.Disk, int, int, uint64, []byte) api.Errno   = area.Write
	_ func(*disk.Disk, int, int) (uint64, []byte, api.Errno) = area.Read
	_ func(*disk.Disk, int, int) (uint64, api.Errno)         = area.Newest
)

// Layer 10.
var (
	_ func(*disk.Disk, int, int, int, uint64) (*journal.Journal, api.Errno) = journal.New
	_ func(*journal.Journal, []byte) api.Errno                              = (*journal.Journal).Append
	_ func(*journal.Journal) int                                            = (*journal.Journal).Left
	_ func(*journal.Journal) uint64                                         = (*journal.Journal).Next
	_ func(*disk.Disk, int, int, int, uint64) ([][]byte, api.Errno)         = journal.Scan
)

// Layer 11.
var (
	_ func(*disk.Disk, int, int) (int, uint64, []byte, api.Errno) = snap.Last
	_ func(*disk.Disk, int, int, []byte) api.Errno                = snap.Next
	_ func(*disk.Disk, int, int, []byte) api.Errno                = snap.Begin
)

// Layer 12.
var (
	_ func(api.Plan) int                                                     = vault.Need
	_ func(api.Plan) (int, int)                                              = vault.Room
	_ func(*disk.Disk, api.Plan, []byte) api.Errno                           = vault.Format
	_ func(*disk.Disk, api.Plan) (*vault.Vault, []byte, [][]byte, api.Errno) = vault.Open
	_ func(*vault.Vault, []byte) api.Errno                                   = (*vault.Vault).Checkpoint
	_ func(*vault.Vault, []byte) api.Errno                                   = (*vault.Vault).Commit
	_ func(*vault.Vault) int                                                 = (*vault.Vault).Left
)

// Layer 13.
var (
	_ func(int) bool                                                      = coin.Right
	_ func(uint64, uint64) (uint64, api.Errno)                            = coin.Plus
	_ func(uint64, uint64) (uint64, api.Errno)                            = coin.Minus
	_ func(uint64, uint64) (uint64, api.Errno)                            = coin.Times
	_ func([]uint64) (uint64, api.Errno)                                  = coin.Sum
	_ func([api.Coins]uint64, int, uint64) ([api.Coins]uint64, api.Errno) = coin.Give
	_ func([api.Coins]uint64, int, uint64) ([api.Coins]uint64, api.Errno) = coin.Take
)

// Layer 14.
var (
	_ func(api.Realm) [][]int                                      = hall.New
	_ func(api.Realm, [][]int) bool                                = hall.Right
	_ func(api.Realm, [][]int, int, int) bool                      = hall.Cleared
	_ func(api.Realm, [][]int, int, int) int                       = hall.Rank
	_ func(api.Realm, [][]int, int, int, int) ([][]int, api.Errno) = hall.Invite
	_ func(api.Realm, [][]int, int, int, int) ([][]int, api.Errno) = hall.Raise
	_ func(api.Realm, [][]int, int, int, int) ([][]int, api.Errno) = hall.Expel
)

// Layer 15.
var (
	_ func([]api.Room) bool                                                = room.Rooms
	_ func([]api.Exit) bool                                                = room.Exits
	_ func([]api.Room, string) ([]api.Room, int, api.Errno)                = room.Dig
	_ func([]api.Exit, api.Ref, api.Ref, int) ([]api.Exit, int, api.Errno) = room.Link
	_ func([]api.Exit, api.Ref, int) ([]api.Exit, api.Errno)               = room.Close
	_ func([]api.Exit, api.Ref, int) (api.Ref, bool)                       = room.Find
	_ func([]api.Exit, api.Ref) []int                                      = room.Ways
)

// Layer 16.
var (
	_ func([]api.Item) bool                                       = thing.Right
	_ func([]api.Item, string, int) ([]api.Item, int, api.Errno)  = thing.Make
	_ func([]api.Item, int, int) ([]api.Item, api.Errno)          = thing.Scrap
	_ func([]api.Item, int, int, api.Ref) ([]api.Item, api.Errno) = thing.Drop
	_ func([]api.Item, int, int, api.Ref) ([]api.Item, api.Errno) = thing.Take
	_ func([]api.Item, int, int, int) ([]api.Item, api.Errno)     = thing.Pass
	_ func([]api.Item, int, int, int) ([]api.Item, api.Errno)     = thing.Hold
	_ func([]api.Item, int, int) ([]api.Item, api.Errno)          = thing.Free
	_ func([]api.Item, int) []int                                 = thing.Held
	_ func([]api.Item, api.Ref) []int                             = thing.Lying
)

// Layer 17.
var (
	_ func([]api.Mail) bool                                   = post.Right
	_ func([]api.Mail, api.Mail) ([]api.Mail, int, api.Errno) = post.Put
	_ func([]api.Mail, int, int) ([]api.Mail, api.Errno)      = post.Toss
	_ func([]api.Mail, int, int) (api.Mail, api.Errno)        = post.Get
	_ func([]api.Mail, int) []int                             = post.Of
)

// Layer 18.
var (
	_ func([]api.Trade) bool                                     = trade.Right
	_ func(api.Part) bool                                        = trade.May
	_ func([]api.Trade, api.Trade) ([]api.Trade, int, api.Errno) = trade.Open
	_ func([]api.Trade, int, int) (api.Trade, api.Errno)         = trade.Get
	_ func([]api.Trade, int, int) ([]api.Trade, api.Errno)       = trade.Shut
	_ func([]api.Trade, int) []int                               = trade.Of
	_ func([]api.Trade, int) (uint64, api.Errno)                 = trade.Held
)

// Layer 19.
var (
	_ func([]api.Order) bool                                                         = book.Right
	_ func(api.Order) bool                                                           = book.May
	_ func(int, uint64, uint64) (uint64, api.Errno)                                  = book.Need
	_ func([]api.Order, api.Order) ([]api.Order, []api.Fill, int, uint64, api.Errno) = book.Post
	_ func([]api.Order, int, int, int) ([]api.Order, api.Order, api.Errno)           = book.Pull
	_ func([]api.Order) []int                                                        = book.Slots
	_ func([]api.Order, int) (uint64, api.Errno)                                     = book.Held
)

// Layer 20.
var (
	_ func(api.Entry) bool                                       = audit.May
	_ func([]api.Entry) bool                                     = audit.Right
	_ func([]api.Entry, int, api.Entry) ([]api.Entry, api.Errno) = audit.Add
	_ func(api.Entry) []byte                                     = audit.Bytes
	_ func([]byte) (api.Entry, api.Errno)                        = audit.Read
)

// Layer 21.
var (
	_ func(api.Realm) (api.State, api.Errno)              = state.New
	_ func(api.Realm, api.State) bool                     = state.Right
	_ func(api.State, api.State) bool                     = state.Same
	_ func(api.State) api.State                           = state.Clone
	_ func(api.Realm, api.State, api.Ref) bool            = state.IsRoom
	_ func(api.State, int) (uint64, api.Errno)            = state.Held
	_ func(api.State, int) (uint64, api.Errno)            = state.Made
	_ func(api.Realm, api.State, int) (api.Me, api.Errno) = state.Me
	_ func(api.Realm, api.State, api.Me) bool             = state.IsMe
)

// Layer 22.
var (
	_ func(api.Realm, api.State, api.Label) (api.State, api.Errno) = view.From
	_ func(api.Realm, api.State, api.State, api.Label) bool        = view.Same
	_ func(api.Realm, api.Label) []int                             = view.Lines
	_ func(api.Realm, int, api.Label) bool                         = view.Sees
)

// Layer 23.
var (
	_ func(api.Realm, api.State) []byte              = image.Bytes
	_ func(api.Realm, []byte) (api.State, api.Errno) = image.Read
)

// Layer 24.
var (
	_ func(api.Realm) int                   = bound.Image
	_ func(api.Realm) int                   = bound.Record
	_ func(api.Realm) (api.Plan, api.Errno) = bound.Plan
	_ func(api.Realm) int                   = bound.Sectors
)

// Layer 25.
var (
	_ func([]byte, int) ([]byte, api.Errno)      = frame.Wrap
	_ func([]byte, int) ([]byte, int, api.Errno) = frame.Take
	_ func([]byte, int) ([][]byte, api.Errno)    = frame.All
)

// Layer 26.
var (
	_ func(int) string                      = command.Name
	_ func(string) int                      = command.Op
	_ func(api.Command) bool                = command.May
	_ func(api.Command) []byte              = command.Bytes
	_ func([]byte) (api.Command, api.Errno) = command.Read
)

// Layer 27.
var (
	_ func(api.Out) bool                  = reply.May
	_ func(api.Out) []byte                = reply.Wrap
	_ func([]byte) (api.Out, api.Errno)   = reply.Read
	_ func([]byte) ([]api.Out, api.Errno) = reply.All
	_ func([]api.Ref) []byte              = reply.Refs
	_ func([]int) []byte                  = reply.Nums
	_ func([]uint64) []byte               = reply.Amounts
)

// Layer 28.
var (
	_ func(api.Realm, api.State, api.Me) (api.Ref, string, []int, api.Errno)       = walk.Look
	_ func(api.Realm, api.State, api.Me) ([]api.Ref, api.Errno)                    = walk.Who
	_ func(api.Realm, api.State, api.Me) ([]api.Ref, api.Errno)                    = walk.Rooms
	_ func(api.Realm, api.State, api.Me, int) (api.State, api.Ref, api.Errno)      = walk.Go
	_ func(api.Realm, api.State, api.Me, string) (api.State, api.Ref, api.Errno)   = walk.Dig
	_ func(api.Realm, api.State, api.Me, int, api.Ref) (api.State, int, api.Errno) = walk.Link
	_ func(api.Realm, api.State, api.Me, int) (api.State, api.Errno)               = walk.Close
)

// Layer 29.
var (
	_ func(api.Realm, api.State, api.Me, string) (api.State, int, api.Errno) = goods.Make
	_ func(api.Realm, api.State, api.Me, int) (api.State, api.Errno)         = goods.Scrap
	_ func(api.Realm, api.State, api.Me, int) (api.State, api.Errno)         = goods.Drop
	_ func(api.Realm, api.State, api.Me, int) (api.State, api.Errno)         = goods.Take
	_ func(api.Realm, api.State, api.Me, int, int) (api.State, api.Errno)    = goods.Pass
	_ func(api.Realm, api.State, api.Me) ([]int, api.Errno)                  = goods.Bag
	_ func(api.Realm, api.State, api.Me) ([]api.Ref, api.Errno)              = goods.Things
)

// Layer 30.
var (
	_ func(api.Realm, api.State, api.Me, int, uint64) (api.State, api.Errno)           = money.Mint
	_ func(api.Realm, api.State, api.Me, int, uint64) (api.State, api.Errno)           = money.Burn
	_ func(api.Realm, api.State, api.Me, int, int, uint64) (api.State, api.Errno)      = money.Pay
	_ func(api.Realm, api.State, api.Me, int, int, int, uint64) (api.State, api.Errno) = money.Lift
	_ func(api.Realm, api.State, api.Me) ([api.Coins]uint64, api.Errno)                = money.Purse
)

// Layer 31.
var (
	_ func(api.Realm, api.State, api.Me, int, int, string) (api.State, api.Errno) = talk.Mail
	_ func(api.Realm, api.State, api.Me) ([]int, api.Errno)                       = talk.Mails
	_ func(api.Realm, api.State, api.Me, int) (api.Mail, api.Errno)               = talk.Letter
	_ func(api.Realm, api.State, api.Me, int) (api.State, api.Errno)              = talk.Toss
	_ func(api.Realm, api.State, api.Me, string) ([]int, api.Errno)               = talk.Say
	_ func(api.Realm, api.State, api.Me, int, string) ([]int, api.Errno)          = talk.Shout
	_ func(api.Realm, api.State, api.Me, int, int) (api.State, api.Errno)         = talk.Guild
	_ func(api.Realm, api.State, api.Me, int) ([]int, api.Errno)                  = talk.Members
)

// Layer 32.
var (
	_ func(api.Realm, api.State, api.Me, int, api.Part, api.Part) (api.State, int, api.Errno) = deal.Offer
	_ func(api.Realm, api.State, api.Me, int) (api.State, api.Errno)                          = deal.Accept
	_ func(api.Realm, api.State, api.Me, int) (api.State, api.Errno)                          = deal.Refuse
	_ func(api.Realm, api.State, api.Me) ([]int, api.Errno)                                   = deal.Trades
	_ func(api.Realm, api.State, api.Me, int) (api.Trade, api.Errno)                          = deal.Trade
)

// Layer 33.
var (
	_ func(api.Realm, api.State, api.Me, int, int, int, uint64, uint64) (api.State, []api.Fill, int, api.Errno) = market.Post
	_ func(api.Realm, api.State, api.Me, int) (api.State, api.Errno)                                            = market.Pull
	_ func(api.Realm, api.State, api.Me, int) (api.Order, api.Errno)                                            = market.Order
	_ func(api.Realm, api.State, api.Me) ([]int, api.Errno)                                                     = market.Book
	_ func(api.Realm, api.State, api.Me, int) (api.Entry, api.Errno)                                            = market.Entry
)

// Layer 34.
var (
	_ func(api.Realm, api.State, int, api.Command) (api.State, api.Out, []api.Push, api.Errno) = act.Do
	_ func(api.Command, api.Out) bool                                                          = act.Posts
)

// Layer 35.
var (
	_ func() *line.Line                          = line.New
	_ func(*line.Line) bool                      = (*line.Line).Made
	_ func(*line.Line, []byte) int               = (*line.Line).Feed
	_ func(*line.Line) ([]byte, api.Errno, bool) = (*line.Line).Next
	_ func(*line.Line, api.Out) bool             = (*line.Line).Tell
	_ func(*line.Line) int                       = (*line.Line).Waits
	_ func(*line.Line, int) []api.Out            = (*line.Line).Release
	_ func(*line.Line) int                       = (*line.Line).Holds
)

// Layer 36.
var (
	_ func(api.Realm, api.State, []*line.Line) (api.State, []byte, api.Errno) = round.Run
	_ func(api.Realm, api.State, []byte) (api.State, api.Errno)               = round.Replay
	_ func(api.Realm, []byte) (uint64, []api.Command, api.Errno)              = round.Read
)

// Layer 37.
var (
	_ func(api.Realm) (*server.Server, api.Errno)        = server.New
	_ func(*server.Server, int, []byte) (int, api.Errno) = (*server.Server).Feed
	_ func(*server.Server) api.Errno                     = (*server.Server).Tick
	_ func(*server.Server, int) api.Errno                = (*server.Server).Fuse
	_ func(*server.Server, []byte, int) api.Errno        = (*server.Server).Crash
	_ func(*server.Server) bool                          = (*server.Server).Up
	_ func(*server.Server) (api.State, api.Errno)        = (*server.Server).State
	_ func(*server.Server, int) []byte                   = (*server.Server).Output
	_ func(*server.Server, api.Event) api.Errno          = (*server.Server).Do
)

// Layer 38.
var (
	_ func(api.Realm, api.State, int) ([5]int, [5]int, api.Errno)              = check.Counts
	_ func(api.Realm, api.State, int) (check.Sums, api.Errno)                  = check.Coin
	_ func(api.Realm, api.State) ([]string, api.Errno)                         = check.Holders
	_ func(api.Realm, api.State, int, api.Command, api.Label) (int, api.Errno) = check.Explains
)

// Layer 39.
var (
	_ func(string) ([]api.Event, int, api.Errno)              = script.Parse
	_ func([]api.Event) (string, api.Errno)                   = script.Print
	_ func(api.Event) bool                                    = script.May
	_ func(api.Realm, []api.Event) (script.Report, api.Errno) = script.Run
)

// Layer 40.
var (
	_ func(api.Realm, []api.Event, []api.Event, api.Label) bool                     = spy.Fair
	_ func(api.Realm, []api.Event, []api.Event, api.Label) (spy.Verdict, api.Errno) = spy.Compare
)

// TestTypes builds only where the types that a layer hands out have just the fields that its chapter tells.
func TestTypes(t *testing.T) {
	sums := check.Sums(struct{ Purses, Trades, Orders, Minted, Burned uint64 }{Burned: 5})
	report := script.Report(struct {
		Errs    []api.Errno
		Outputs [][]byte
		Up      bool
		State   api.State
	}{Up: true})
	verdict := spy.Verdict(struct{ Fair, Logs, Alike bool }{Alike: true})
	if sums.Burned != 5 || !report.Up || !verdict.Alike {
		t.Error("types", sums, report, verdict)
	}
}
